package history_test

import (
	"fmt"
	"math"
	"slices"
	"testing"

	"berthshift/api"
	"berthshift/history"
)

func publish(producer, id, body int) api.Event {
	return api.Event{Kind: api.Publish, Producer: producer, Id: id, Body: body}
}

func ack(epoch, no int) api.Event {
	return api.Event{Kind: api.Ack, Handle: api.Handle{Epoch: epoch, No: no}}
}

var (
	receive = api.Event{Kind: api.Receive}
	end     = api.Event{Kind: api.Break}
)

// of: a window, what it remembers written as a text, the lowest one first: x was taken.
func of(top int, taken string) api.Window {
	w := api.Window{Top: top}
	for i := range w.Seen {
		w.Seen[i] = taken[i] == 'x'
	}
	return w
}

// same: are two queues the same? A list without elements may be nil or not.
func same(a, b api.Queue) bool {
	return a.Epoch == b.Epoch && a.Next == b.Next && a.Given == b.Given && a.Windows == b.Windows &&
		slices.Equal(a.Ready, b.Ready) && slices.Equal(a.Leases, b.Leases)
}

// told: a history, the queue behind it, and the answers to it, all written out.
type told struct {
	what    string
	l       []api.Event
	q       api.Queue
	answers []api.Answer
}

// some histories, of all kinds of events.
func some() []told {
	done := api.Answer{}
	given := func(epoch, no, body int) api.Answer {
		return api.Answer{Handle: api.Handle{Epoch: epoch, No: no}, Body: body}
	}
	return []told{
		{"nothing", nil, api.Queue{}, nil},
		{"nothing, and not nil", []api.Event{}, api.Queue{}, nil},
		{"a Publish", []api.Event{publish(1, 3, 7)},
			api.Queue{Next: 1, Ready: []api.Message{{No: 0, Body: 7}}, Windows: [4]api.Window{1: of(4, ".......x")}}, []api.Answer{done}},
		{"the greatest numbers", []api.Event{publish(3, api.MaxId, api.MaxBody), receive},
			api.Queue{Next: 1, Given: 1, Leases: []api.Lease{{Message: api.Message{Body: api.MaxBody}}},
				Windows: [4]api.Window{3: of(api.MaxId+1, ".......x")}}, []api.Answer{done, given(0, 0, api.MaxBody)}},
		{"a Break alone", []api.Event{end}, api.Queue{Epoch: 1}, []api.Answer{done}},
		{"Breaks", []api.Event{end, end, end}, api.Queue{Epoch: 3}, []api.Answer{done, done, done}},
		{"all acked", []api.Event{publish(0, 0, 5), receive, ack(0, 0)},
			api.Queue{Next: 1, Given: 1, Windows: [4]api.Window{of(1, ".......x")}}, []api.Answer{done, given(0, 0, 5), done}},
		{"behind a Break", []api.Event{publish(0, 0, 5), publish(0, 1, 6), receive, end, receive, receive, ack(1, 0)},
			api.Queue{Epoch: 1, Next: 2, Given: 2, Leases: []api.Lease{{Handle: api.Handle{Epoch: 1, No: 1}, Message: api.Message{No: 1, Body: 6}}},
				Windows: [4]api.Window{of(2, "......xx")}},
			[]api.Answer{done, done, given(0, 0, 5), done, given(1, 0, 5), given(1, 1, 6), done}},
		{"mixed", []api.Event{publish(0, 4, 40), publish(2, 0, 20), publish(0, 2, 41), receive, receive, ack(0, 0), end, publish(2, 9, 21), receive},
			api.Queue{Epoch: 1, Next: 4, Given: 1, Ready: []api.Message{{No: 2, Body: 41}, {No: 3, Body: 21}},
				Leases:  []api.Lease{{Handle: api.Handle{Epoch: 1}, Message: api.Message{No: 1, Body: 20}}},
				Windows: [4]api.Window{of(5, ".....x.x"), {}, of(10, ".......x")}},
			[]api.Answer{done, done, done, given(0, 0, 40), given(0, 1, 20), done, done, done, given(1, 0, 20)}},
	}
}

// replays: are a list's queue and answers these?
func replays(t *testing.T, c told) {
	t.Helper()
	before := slices.Clone(c.l)
	if q, e := history.Replay(c.l); !same(q, c.q) || e != api.OK {
		t.Errorf("%s: Replay: %v, %v; want %v", c.what, q, e, c.q)
	}
	if a, e := history.Answers(c.l); !slices.Equal(a, c.answers) || e != api.OK {
		t.Errorf("%s: Answers: %v, %v; want %v", c.what, a, e, c.answers)
	}
	if !slices.Equal(c.l, before) {
		t.Errorf("%s: what was handed in became %v", c.what, c.l)
	}
}

// refuses: is a list refused, by both, with this error, and is nothing else answered?
func refuses(t *testing.T, what string, l []api.Event, want api.Errno) {
	t.Helper()
	before := slices.Clone(l)
	if q, e := history.Replay(l); !same(q, api.Queue{}) || e != want {
		t.Errorf("%s: Replay: %v, %v; want %v", what, q, e, want)
	}
	if a, e := history.Answers(l); len(a) != 0 || e != want {
		t.Errorf("%s: Answers: %v, %v; want %v", what, a, e, want)
	}
	if !slices.Equal(l, before) {
		t.Errorf("%s: what was handed in became %v", what, l)
	}
}

// P5.1, P5.2: the queue behind a history, and its answers.
func TestHistories(t *testing.T) {
	for _, c := range some() {
		replays(t, c)
	}
}

// P5.1, P5.2: each beginning of a history is one, and its answers are the first ones.
func TestBeginnings(t *testing.T) {
	for _, c := range some() {
		for n := range len(c.l) + 1 {
			if a, e := history.Answers(c.l[:n]); !slices.Equal(a, c.answers[:n]) || e != api.OK {
				t.Errorf("%s: the first %d: %v, %v; want %v", c.what, n, a, e, c.answers[:n])
			}
			if _, e := history.Replay(c.l[:n]); e != api.OK {
				t.Errorf("%s: the first %d: Replay: %v", c.what, n, e)
			}
		}
	}
}

// breaks: a history of n events, all of them Breaks.
func breaks(n int) []api.Event { return slices.Repeat([]api.Event{end}, n) }

// rounds: a history of n times a Publish, a Receive and an Ack.
func rounds(n int) []api.Event {
	var l []api.Event
	for i := range n {
		l = append(l, publish(i%api.MaxProducers, i, i), receive, ack(0, i))
	}
	return l
}

// filled: a history of MaxReady Publishes: no message more has room.
func filled() []api.Event {
	var l []api.Event
	for i := range api.MaxReady {
		l = append(l, publish(1, i, i))
	}
	return l
}

// P5.1, P5.2: MaxEvents events, and one more; what is wrong with events beside that comes behind it.
func TestMaxEvents(t *testing.T) {
	replays(t, told{"MaxEvents Breaks", breaks(api.MaxEvents), api.Queue{Epoch: api.MaxEvents}, make([]api.Answer, api.MaxEvents)})
	whole := append(rounds(api.MaxEvents/3), breaks(api.MaxEvents%3)...)
	if len(whole) != api.MaxEvents {
		t.Fatal(len(whole))
	}
	if q, e := history.Replay(whole); e != api.OK || q.Epoch != 2 || q.Next != 666 || q.Given != 0 || len(q.Ready)+len(q.Leases) != 0 || q.Windows[1].Top != 666 {
		t.Errorf("MaxEvents events: %v, %v", q, e)
	}
	a, e := history.Answers(whole)
	if len(a) != api.MaxEvents || e != api.OK {
		t.Fatalf("MaxEvents events: %d answers, %v", len(a), e)
	}
	if want := (api.Answer{Handle: api.Handle{No: 665}, Body: 665}); a[1996] != want {
		t.Errorf("the answer to the last Receive: %v, want %v", a[1996], want)
	}
	refuses(t, "MaxEvents, the last one changes nothing", append(breaks(api.MaxEvents-1), receive), api.ErrForm)
	refuses(t, "MaxEvents, the first one changes nothing", append([]api.Event{receive}, breaks(api.MaxEvents-1)...), api.ErrForm)
	refuses(t, "MaxEvents, the last one may not be", append(breaks(api.MaxEvents-1), api.Event{}), api.ErrForm)

	refuses(t, "one more", breaks(api.MaxEvents+1), api.ErrSize)
	refuses(t, "one more, of all kinds", append(whole[:len(whole):len(whole)], end), api.ErrSize)
	refuses(t, "many more", breaks(10*api.MaxEvents), api.ErrSize)
	refuses(t, "one more, which changes nothing", append(breaks(api.MaxEvents), receive), api.ErrSize)
	refuses(t, "one more, and the first one changes nothing", append([]api.Event{receive}, breaks(api.MaxEvents)...), api.ErrSize)
	refuses(t, "one more, and none may be", make([]api.Event, api.MaxEvents+1), api.ErrSize)
}

// P5.1, P5.2: an event that Do refuses, at each place of a history: ErrForm, whatever Do's error is.
func TestEventMayNotBe(t *testing.T) {
	for _, e := range []api.Event{
		{}, {Kind: -1}, {Kind: 5}, {Kind: math.MinInt}, {Kind: math.MaxInt}, {Kind: 1<<32 + 4},
		publish(-1, 0, 0), publish(api.MaxProducers, 0, 0), publish(math.MinInt, 0, 0), publish(math.MaxInt, 0, 0),
		publish(3, -1, 0), publish(3, api.MaxId+1, 0), publish(3, 50, -1), publish(3, 50, api.MaxBody+1),
		ack(-1, 0), ack(api.MaxEpoch+1, 0), ack(0, -1), ack(0, api.MaxId+1),
		{Kind: api.Publish, Producer: 3, Id: 50, Handle: api.Handle{No: 1}}, {Kind: api.Receive, Body: 1},
		{Kind: api.Ack, Producer: 1}, {Kind: api.Break, Id: 1}, {Kind: api.Break, Handle: api.Handle{Epoch: 1}},
	} {
		for _, c := range some() {
			for at := range len(c.l) + 1 {
				refuses(t, fmt.Sprint(c.what, ", ", e, " at ", at), slices.Insert(slices.Clone(c.l), at, e), api.ErrForm)
			}
		}
	}
}

// P5.1, P5.2: an event that changes nothing, in the beginning, in the middle and at the end, though Do answers it.
func TestChangesNothing(t *testing.T) {
	first := []api.Event{publish(0, 0, 5), publish(0, 1, 6), receive}
	for _, c := range []struct {
		what string
		l    []api.Event
		at   int // the place of the event that changes nothing
	}{
		{"a Receive of nothing, alone", []api.Event{receive}, 0},
		{"a Receive of nothing, in the beginning", append([]api.Event{receive}, first...), 0},
		{"an Ack of nothing, alone", []api.Event{ack(0, 0)}, 0},
		{"an Ack of nothing, in the beginning", append([]api.Event{ack(0, 0)}, first...), 0},
		{"an Ack of another epoch, in the beginning", append([]api.Event{ack(1, 0)}, first...), 0},
		{"an id once more, in the middle", []api.Event{publish(0, 0, 5), publish(0, 0, 5), receive}, 1},
		{"an id once more, with another body, in the middle", []api.Event{publish(0, 0, 5), publish(0, 0, 6), receive}, 1},
		{"a Receive when all is leased, in the middle", []api.Event{publish(0, 0, 5), receive, receive, ack(0, 0)}, 2},
		{"an Ack once more, in the middle", []api.Event{publish(0, 0, 5), receive, ack(0, 0), ack(0, 0), end}, 3},
		{"an Ack of no lease, in the middle", []api.Event{publish(0, 0, 5), receive, ack(0, 1), ack(0, 0)}, 2},
		{"an Ack of an old handle, in the middle", []api.Event{publish(0, 0, 5), receive, end, ack(0, 0), receive}, 3},
		{"an id below the window, in the middle", []api.Event{publish(2, 9, 5), publish(2, 0, 5), receive}, 1},
		{"an id once more, at the end", append(slices.Clone(first), publish(0, 1, 6)), 3},
		{"an id once more behind its ack, at the end", []api.Event{publish(0, 0, 5), receive, ack(0, 0), publish(0, 0, 5)}, 3},
		{"an Ack of an old handle, at the end", append(slices.Clone(first), end, ack(0, 0)), 4},
		{"an Ack of no lease, at the end", append(slices.Clone(first), ack(0, 1)), 3},
		{"an Ack of a later epoch, at the end", append(slices.Clone(first), ack(1, 0)), 3},
		{"a Receive when all is acked, at the end", []api.Event{publish(0, 0, 5), receive, ack(0, 0), receive}, 3},
		{"an id below the window, at the end", []api.Event{publish(2, 9, 5), publish(2, 0, 5)}, 1},
		{"a Publish to a queue that is full, at the end", append(filled(), publish(0, 0, 0)), api.MaxReady},
		{"a Publish to a queue that is full, in the middle", append(filled(), publish(0, 0, 0), receive, ack(0, 0)), api.MaxReady},
		{"a Publish to a queue that is full, some leased", append(filled(), receive, publish(0, 0, 0), ack(0, 0)), api.MaxReady + 1},
	} {
		refuses(t, c.what, c.l, api.ErrForm)
		if _, e := history.Replay(c.l[:c.at]); e != api.OK {
			t.Errorf("%s: what is ahead of it: %v", c.what, e)
		}
		if _, e := history.Replay(c.l[:c.at+1]); e != api.ErrForm {
			t.Errorf("%s: up to it: %v", c.what, e)
		}
	}
	if q, e := history.Replay(append(filled(), receive, ack(0, 0), publish(0, 0, 9))); e != api.OK || len(q.Ready) != api.MaxReady || q.Next != api.MaxReady+1 {
		t.Errorf("room for one: %d ready, %v", len(q.Ready), e)
	}
}

// P5.3: with how many events any two lists begin alike, whichever is named first.
func TestCommon(t *testing.T) {
	l := []api.Event{publish(0, 0, 5), publish(0, 1, 6), receive, end}
	odd := []api.Event{{Kind: -1}, {Kind: math.MinInt, Id: math.MaxInt}, {}, receive, receive}
	long := breaks(api.MaxEvents + 5)
	for _, c := range []struct {
		what string
		a, b []api.Event
		want int
	}{
		{"nothing", nil, nil, 0},
		{"nothing, and not nil", nil, []api.Event{}, 0},
		{"nothing, and something", nil, l, 0},
		{"nothing that is not nil, and something", []api.Event{}, l, 0},
		{"the same list", l, l, 4},
		{"the same events", l, slices.Clone(l), 4},
		{"one is the beginning of the other", l[:1], l, 1},
		{"all but the last one", l[:3], l, 3},
		{"they differ at the first one", l, append([]api.Event{end}, l[1:]...), 0},
		{"they differ at the second one", l, []api.Event{l[0], publish(0, 1, 7), receive, end}, 1},
		{"they differ at the last one", l, append(slices.Clone(l[:3]), receive), 3},
		{"alike again behind that", l, []api.Event{l[0], end, l[2], l[3]}, 1},
		{"the other's second one first", l, l[1:], 0},
		{"no histories", odd, slices.Clone(odd), 5},
		{"no histories, a beginning", odd, odd[:2], 2},
		{"no histories, they differ", odd, append(slices.Clone(odd[:4]), end), 4},
		{"events that change nothing", []api.Event{receive, receive}, []api.Event{receive, ack(0, 0)}, 1},
		{"more than MaxEvents", long, slices.Clone(long), api.MaxEvents + 5},
		{"more than MaxEvents, a beginning", long, long[:api.MaxEvents+1], api.MaxEvents + 1},
		{"more than MaxEvents, they differ at the last one", long, append(breaks(api.MaxEvents+4), receive), api.MaxEvents + 4},
	} {
		a, b := slices.Clone(c.a), slices.Clone(c.b)
		if got := history.Common(c.a, c.b); got != c.want {
			t.Errorf("%s: %d, want %d", c.what, got, c.want)
		}
		if got := history.Common(c.b, c.a); got != c.want {
			t.Errorf("%s, the other way round: %d, want %d", c.what, got, c.want)
		}
		if !slices.Equal(a, c.a) || !slices.Equal(b, c.b) {
			t.Errorf("%s: what was handed in became %v, %v", c.what, c.a, c.b)
		}
	}
}

// P5.3: events are alike if all their fields are.
func TestCommonFields(t *testing.T) {
	e := api.Event{Kind: 9, Producer: 8, Id: 7, Body: 6, Handle: api.Handle{Epoch: 5, No: 4}}
	for what, change := range map[string]func(e *api.Event){
		"Kind":         func(e *api.Event) { e.Kind++ },
		"Producer":     func(e *api.Event) { e.Producer-- },
		"Id":           func(e *api.Event) { e.Id += 1 << 32 },
		"Body":         func(e *api.Event) { e.Body = -e.Body },
		"Handle.Epoch": func(e *api.Event) { e.Handle.Epoch = math.MinInt },
		"Handle.No":    func(e *api.Event) { e.Handle.No++ },
	} {
		x := e
		change(&x)
		if got := history.Common([]api.Event{e, e, e}, []api.Event{e, x, e}); got != 1 {
			t.Errorf("another %s: %d", what, got)
		}
	}
}

// What holds everywhere: what is handed in is not changed, its spare room neither, and what is answered shares nothing with it, nor with another answer.
func TestMemory(t *testing.T) {
	mark := api.Event{Kind: -7}
	lists := append(some(), told{what: "changes nothing", l: []api.Event{publish(0, 0, 5), receive, receive}}, told{what: "may not be", l: []api.Event{end, {}}})
	for _, c := range lists {
		all := append(slices.Clone(c.l), mark, mark, mark)
		kept := slices.Clone(all)
		l := all[:len(c.l)]
		q, _ := history.Replay(l)
		a, _ := history.Answers(l)
		history.Common(l, all)
		history.Common(all, l)
		if !slices.Equal(all, kept) {
			t.Errorf("%s: what was handed in became %v", c.what, all)
		}
		again, _ := history.Replay(l)
		answers, _ := history.Answers(l)
		wantReady, wantLeases, wantAnswers := slices.Clone(again.Ready), slices.Clone(again.Leases), slices.Clone(answers)
		for i := range q.Ready[:cap(q.Ready)] {
			q.Ready[:cap(q.Ready)][i] = api.Message{No: -9}
		}
		for i := range q.Leases[:cap(q.Leases)] {
			q.Leases[:cap(q.Leases)][i] = api.Lease{Handle: api.Handle{No: -9}}
		}
		for i := range a[:cap(a)] {
			a[:cap(a)][i] = api.Answer{Body: -9}
		}
		if !slices.Equal(all, kept) || !slices.Equal(again.Ready, wantReady) || !slices.Equal(again.Leases, wantLeases) || !slices.Equal(answers, wantAnswers) {
			t.Errorf("%s: an answer shares memory", c.what)
		}
	}
}

// model of a queue, by another way than the program's: all messages that ever came, each with its state.
type model struct {
	epoch, given int
	bodies       []int
	handles      []int // by message: its handle's No; ready: -1; gone: -2
	taken        map[[2]int]int
	top          [api.MaxProducers]int
}

// do an event: the answer, and whether it changed anything.
func (m *model) do(e api.Event) (api.Answer, bool) {
	switch e.Kind {
	case api.Publish:
		return m.publish(e)
	case api.Receive:
		at := slices.Index(m.handles, -1)
		if at < 0 {
			return api.Answer{Code: api.ErrEmpty}, false
		}
		m.handles[at] = m.given
		m.given++
		return api.Answer{Handle: api.Handle{Epoch: m.epoch, No: m.given - 1}, Body: m.bodies[at]}, true
	case api.Ack:
		at := slices.Index(m.handles, e.Handle.No)
		if e.Handle.Epoch != m.epoch || at < 0 {
			return api.Answer{}, false
		}
		m.handles[at] = -2
		return api.Answer{}, true
	}
	m.epoch, m.given = m.epoch+1, 0
	for i, h := range m.handles {
		if h >= 0 {
			m.handles[i] = -1
		}
	}
	return api.Answer{}, true
}

func (m *model) publish(e api.Event) (api.Answer, bool) {
	here := [2]int{e.Producer, e.Id}
	gone := 0
	for _, h := range m.handles {
		if h == -2 {
			gone++
		}
	}
	if e.Id < m.top[e.Producer]-8 || m.taken[here] == 1 || len(m.bodies)-gone == 500 {
		return api.Answer{}, false
	}
	m.taken[here] = 1
	m.top[e.Producer] = max(m.top[e.Producer], e.Id+1)
	m.bodies, m.handles = append(m.bodies, e.Body), append(m.handles, -1)
	return api.Answer{}, true
}

// queue that the model tells.
func (m *model) queue() api.Queue {
	q := api.Queue{Epoch: m.epoch, Next: len(m.bodies), Given: m.given}
	for no, h := range m.handles {
		x := api.Message{No: no, Body: m.bodies[no]}
		switch {
		case h == -1:
			q.Ready = append(q.Ready, x)
		case h >= 0:
			q.Leases = append(q.Leases, api.Lease{Handle: api.Handle{Epoch: m.epoch, No: h}, Message: x})
		}
	}
	slices.SortFunc(q.Leases, func(a, b api.Lease) int { return a.Handle.No - b.Handle.No })
	for p, top := range m.top {
		q.Windows[p].Top = top
		for i := range q.Windows[p].Seen {
			q.Windows[p].Seen[i] = m.taken[[2]int{p, top - 8 + i}] == 1
		}
	}
	return q
}

// agrees: are Replay and Answers as the model tells? Every event must be one that may be.
func agrees(t *testing.T, l []api.Event) {
	t.Helper()
	m := &model{taken: map[[2]int]int{}}
	var answers []api.Answer
	for _, e := range l {
		a, changed := m.do(e)
		if !changed {
			refuses(t, fmt.Sprint(l), l, api.ErrForm)
			return
		}
		answers = append(answers, a)
	}
	replays(t, told{fmt.Sprint(l), l, m.queue(), answers})
}

// die: numbers that look drawn, the same each time.
type die uint64

func (d *die) n(most int) int {
	*d = *d*6364136223846793005 + 1442695040888963407
	return int(uint64(*d>>33) % uint64(most))
}

// event that may be.
func (d *die) event() api.Event {
	switch d.n(10) {
	case 0, 1, 2, 3:
		return publish(d.n(api.MaxProducers), d.n(20), d.n(100))
	case 4, 5, 6:
		return receive
	case 7, 8:
		return ack(d.n(3), d.n(5))
	}
	return end
}

// history that looks drawn, of the events that change something.
func (d *die) history(tries int) []api.Event {
	m := &model{taken: map[[2]int]int{}}
	var l []api.Event
	for range tries {
		e := d.event()
		if _, changed := m.do(e); changed {
			l = append(l, e)
		}
	}
	return l
}

// P5.1, P5.2: drawn histories, and such with a drawn event laid in anywhere, against the model.
func TestModel(t *testing.T) {
	d := die(5)
	for range 400 {
		l := d.history(d.n(60))
		agrees(t, l)
		for range 5 {
			agrees(t, slices.Insert(slices.Clone(l), d.n(len(l)+1), d.event()))
		}
	}
}

// P5.3: a drawn list, and its beginning with other events behind it.
func TestCommonDrawn(t *testing.T) {
	d := die(6)
	for range 400 {
		l := d.history(d.n(60))
		n := d.n(len(l) + 1)
		other := append(slices.Clone(l[:n]), api.Event{Kind: -1})
		for range d.n(4) {
			other = append(other, d.event())
		}
		if got := history.Common(l, other); got != n {
			t.Errorf("Common of %v, %v: %d, want %d", l, other, got, n)
		}
	}
}

// Whatever events there are, one behind the other, each one written as four bytes. (P5.1 to P5.3)
func FuzzHistory(f *testing.F) {
	f.Add([]byte("\x01\x00\x00\x05\x02\x00\x00\x00\x04\x00\x00\x00\x03\x01\x00\x00"))
	f.Add([]byte("\x01\x00\x00\x00\x01\x00\x01\x00\x02\x00\x00\x00\x01\x00\x02\x00"))
	f.Add([]byte("\x04\x00\x00\x00\x04\x00\x00\x00\x01\x03\x09\x00\x01\x03\x00\x00"))
	f.Fuzz(func(t *testing.T, b []byte) {
		var l []api.Event
		for ; len(b) >= 4 && len(l) < 200; b = b[4:] {
			switch b[0] % 4 {
			case 0:
				l = append(l, end)
			case 1:
				l = append(l, publish(int(b[1])%api.MaxProducers, int(b[2]), int(b[3])))
			case 2:
				l = append(l, receive)
			case 3:
				l = append(l, ack(int(b[1]), int(b[2])))
			}
		}
		agrees(t, l)
		if n := len(l) / 2; history.Common(l, l[:n]) != n {
			t.Errorf("Common of %v and its half: %d", l, history.Common(l, l[:n]))
		}
	})
}
