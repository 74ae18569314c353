package berth_test

import (
	"fmt"
	"math"
	"slices"
	"testing"

	"berthshift/api"
	"berthshift/berth"
	"berthshift/history"
	"berthshift/queue"
)

func publish(producer, id, body int) api.Event {
	return api.Event{Kind: api.Publish, Producer: producer, Id: id, Body: body}
}

func ack(epoch, no int) api.Event {
	return api.Event{Kind: api.Ack, Handle: api.Handle{Epoch: epoch, No: no}}
}

var (
	receive = api.Event{Kind: api.Receive}
	end     = api.Event{Kind: api.Break}
)

// seven events: a history. Behind it the first message is gone, the second one leased, and the third one ready; the queue's Epoch is 1.
func seven() []api.Event {
	return []api.Event{publish(0, 0, 5), receive, ack(0, 0), publish(0, 1, 6), publish(2, 9, 7), end, receive}
}

// breaks: a history of n events, all of them Breaks.
func breaks(n int) []api.Event { return slices.Repeat([]api.Event{end}, n) }

// join: lists of events as one, in new memory.
func join(lists ...[]api.Event) []api.Event { return slices.Concat(lists...) }

func active(epoch int, l ...api.Event) api.Berth {
	return api.Berth{Role: api.Active, Epoch: epoch, Events: l}
}

func draining(epoch, to, rounds int, l ...api.Event) api.Berth {
	return api.Berth{Role: api.Draining, Epoch: epoch, To: to, Rounds: rounds, Events: l}
}

func sealed(epoch, to int, l ...api.Event) api.Berth {
	return api.Berth{Role: api.Sealed, Epoch: epoch, To: to, Events: l}
}

func importing(epoch, from int, l ...api.Event) api.Berth {
	return api.Berth{Role: api.Importing, Epoch: epoch, From: from, Events: l}
}

func nobody(epoch int) api.Berth { return api.Berth{Epoch: epoch} }

// roles: a berth of each role, with events where it may have some.
func roles() []api.Berth {
	return []api.Berth{nobody(3), active(3, seven()...), draining(3, 2, 1, seven()...), sealed(3, 2, seven()...), importing(3, 2, seven()...)}
}

// same: are two berths the same? A list without elements may be nil or not.
func same(a, b api.Berth) bool {
	return a.Role == b.Role && a.Epoch == b.Epoch && a.From == b.From && a.To == b.To && a.Rounds == b.Rounds && slices.Equal(a.Events, b.Events)
}

// short: a berth as a text, without most of its events.
func short(b api.Berth) string {
	n := len(b.Events)
	b.Events = b.Events[:min(n, 9)]
	return fmt.Sprint(b, " of ", n, " events")
}

// gives: is this berth answered, without an error, and may it be?
func gives(t *testing.T, what string, got api.Berth, e api.Errno, want api.Berth) {
	t.Helper()
	if !same(got, want) || e != api.OK {
		t.Errorf("%s: %s, %v; want %s", what, short(got), e, short(want))
	}
	if berth.Check(got) != api.OK {
		t.Errorf("%s: %s, which may not be", what, short(got))
	}
}

// refuses: is nothing but this error answered?
func refuses(t *testing.T, what string, got api.Berth, e, want api.Errno) {
	t.Helper()
	if !same(got, api.Berth{}) || e != want {
		t.Errorf("%s: %s, %v; want nothing, %v", what, short(got), e, want)
	}
}

// numbers at which nodes, rounds and epochs begin and end, and far ones.
var numbers = []int{math.MinInt, -1 << 32, -2, -1, 0, 1, 2, 3, 4, 5, 6, 1<<20 - 1, 1 << 20, 1<<20 + 1, 1 << 32, 1<<32 + 1, math.MaxInt}

// P7.1: berths that may be, of each role, at the least and the greatest numbers, without events and with as many as may be.
func TestCheck(t *testing.T) {
	l := []api.Berth{{}, nobody(1), nobody(api.MaxEpoch), {Epoch: 5, Events: []api.Event{}}}
	for _, epoch := range []int{1, 2, api.MaxEpoch} {
		for _, events := range [][]api.Event{nil, {}, {end}, seven(), breaks(api.MaxEvents)} {
			l = append(l, active(epoch, events...))
			for _, node := range []int{0, 1, 2, 3, 4} {
				l = append(l, sealed(epoch, node, events...), importing(epoch, node, events...))
			}
			for _, rounds := range []int{0, 1, 2, 3, 4} {
				l = append(l, draining(epoch, 0, rounds, events...), draining(epoch, 4, rounds, events...))
			}
		}
	}
	for _, b := range l {
		if e := berth.Check(b); e != api.OK {
			t.Errorf("Check of %s: %v", short(b), e)
		}
	}
}

// wrong: berths that may not be, each of them one that may, but for one thing.
func wrong() []api.Berth {
	l := []api.Berth{{Events: []api.Event{end}}, {Epoch: 3, Events: seven()}} // a Nobody with events
	for _, n := range []int{math.MinInt, -1, 5, 6, 1 << 32, 1<<32 + 1, math.MaxInt} {
		l = append(l, api.Berth{Role: n}, api.Berth{Role: n, Epoch: 1})
	}
	for _, b := range roles() {
		for _, n := range numbers {
			l = append(l, changed(b, n)...)
		}
		if b.Role != api.Nobody {
			for _, events := range noHistories() {
				b.Events = events
				l = append(l, b)
			}
		}
	}
	return l
}

// changed: a berth with a number, as Epoch, From, To and Rounds, wherever that may not be.
func changed(b api.Berth, n int) []api.Berth {
	var l []api.Berth
	if x := b; n < 0 || n > 1<<20 || n == 0 && b.Role != api.Nobody {
		x.Epoch = n
		l = append(l, x)
	}
	if x := b; n < 0 || n > 4 || n > 0 && b.Role != api.Importing {
		x.From = n
		l = append(l, x)
	}
	if x := b; n < 0 || n > 4 || n > 0 && b.Role != api.Draining && b.Role != api.Sealed {
		x.To = n
		l = append(l, x)
	}
	if x := b; n < 0 || n > 4 || n > 0 && b.Role != api.Draining {
		x.Rounds = n
		l = append(l, x)
	}
	return l
}

// noHistories: lists of events that are no history: an event that may not be, one that changes nothing, too many.
func noHistories() [][]api.Event {
	return [][]api.Event{
		{{}}, {receive}, {ack(0, 0)}, {{Kind: 5}}, {publish(4, 0, 0)}, {publish(0, -1, 0)}, {{Kind: api.Break, Id: 1}},
		join(seven(), []api.Event{ack(0, 0)}), join(seven(), []api.Event{{Kind: math.MinInt}}), join([]api.Event{receive}, seven()),
		{publish(0, 0, 1), publish(0, 0, 1)}, breaks(api.MaxEvents + 1), join(breaks(api.MaxEvents-1), []api.Event{receive}),
	}
}

// P7.1: a berth that may not be is ErrState, for all calls, ahead of all else that may be wrong, and of all that would be right.
func TestMayNotBe(t *testing.T) {
	for _, b := range wrong() {
		if e := berth.Check(b); e != api.ErrState {
			t.Errorf("Check of %s: %v", short(b), e)
		}
		notLookedAt(t, b)
	}
}

// notLookedAt: does each call answer ErrState alone, whatever is asked?
func notLookedAt(t *testing.T, b api.Berth) {
	t.Helper()
	for _, e := range []api.Event{publish(1, 1, 1), receive, end, {}, publish(4, 0, 0)} {
		got, a, more, c := berth.Serve(b, e)
		if a != (api.Answer{}) || more {
			t.Errorf("Serve of %s, %v: %v, %v", short(b), e, a, more)
		}
		refuses(t, fmt.Sprint("Serve of ", short(b), e), got, c, api.ErrState)
	}
	for _, n := range []int{-1, 0, 1, 4, 5, api.MaxEpoch + 1} {
		got, e := berth.Make(b, n)
		refuses(t, fmt.Sprint("Make of ", short(b), n), got, e, api.ErrState)
		got, e = berth.Go(b, n)
		refuses(t, fmt.Sprint("Go of ", short(b), n), got, e, api.ErrState)
		got, e = berth.Caught(b, n)
		refuses(t, fmt.Sprint("Caught of ", short(b), n), got, e, api.ErrState)
		if l, last, e := berth.Part(b, n); len(l) != 0 || last || e != api.ErrState {
			t.Errorf("Part of %s, %d: %v, %v, %v", short(b), n, l, last, e)
		}
		got, e = berth.Begin(b, n, 1)
		refuses(t, fmt.Sprint("Begin of ", short(b), n), got, e, api.ErrState)
		got, e = berth.Import(b, n, 0, nil, n > 0)
		refuses(t, fmt.Sprint("Import of ", short(b), n), got, e, api.ErrState)
		got, e = berth.Forget(b, n)
		refuses(t, fmt.Sprint("Forget of ", short(b), n), got, e, api.ErrState)
	}
	got, e := berth.Begin(b, b.Epoch, b.From)
	refuses(t, fmt.Sprint("Begin of ", short(b), ", just that"), got, e, api.ErrState)
	got, e = berth.Wake(b)
	refuses(t, fmt.Sprint("Wake of ", short(b)), got, e, api.ErrState)
}

// serves: does Serve answer this, with one more event or with the berth as it was?
func serves(t *testing.T, what string, b api.Berth, e api.Event, want api.Answer, more bool) {
	t.Helper()
	x := b
	if more {
		x.Events = join(b.Events, []api.Event{e})
	}
	got, a, told, c := berth.Serve(b, e)
	if a != want || told != more {
		t.Errorf("%s: Serve of %s, %v: %v, %v; want %v, %v", what, short(b), e, a, told, want, more)
	}
	gives(t, what, got, c, x)
}

// P7.2: a berth that is Active or Draining does what the queue does that its events make.
func TestServe(t *testing.T) {
	done := api.Answer{}
	code := func(e api.Errno) api.Answer { return api.Answer{Code: e} }
	for _, b := range []api.Berth{active(1), draining(1, 0, 0), draining(api.MaxEpoch, 4, 4), active(api.MaxEpoch)} {
		serves(t, "a Publish", b, publish(3, 0, api.MaxBody), done, true)
		serves(t, "the greatest Id", b, publish(0, api.MaxId, 0), done, true)
		serves(t, "a Receive of nothing", b, receive, code(api.ErrEmpty), false)
		serves(t, "an Ack of nothing", b, ack(0, 0), code(api.ErrNone), false)
		serves(t, "an Ack of another epoch", b, ack(1, 0), code(api.ErrStale), false)
		b.Events = seven()
		serves(t, "a Publish", b, publish(0, 2, 8), done, true)
		serves(t, "an Id once more", b, publish(0, 1, 8), done, false)
		serves(t, "an Id below the window", b, publish(2, 1, 8), code(api.ErrLow), false)
		serves(t, "a Receive", b, receive, api.Answer{Handle: api.Handle{Epoch: 1, No: 1}, Body: 7}, true)
		serves(t, "an Ack", b, ack(1, 0), done, true)
		serves(t, "an Ack of no lease", b, ack(1, 1), code(api.ErrNone), false)
		serves(t, "an Ack of an old handle", b, ack(0, 0), code(api.ErrStale), false)
		serves(t, "an Ack of a later epoch", b, ack(2, 0), code(api.ErrStale), false)
	}
	filled := make([]api.Event, api.MaxReady)
	for i := range filled {
		filled[i] = publish(1, i, i)
	}
	serves(t, "a queue that is full", active(1, filled...), publish(0, 0, 0), code(api.ErrFull), false)
	serves(t, "a queue that is full", active(1, filled...), receive, api.Answer{}, true)
}

// P7.2: who is Sealed says ErrMoving, who is Nobody or Importing ErrNone, to all that may be asked; nothing changes.
func TestServeNobody(t *testing.T) {
	for _, e := range []api.Event{publish(0, 2, 8), publish(0, 1, 6), publish(2, 0, 0), receive, ack(1, 0), ack(0, 0), ack(1, 1)} {
		for _, b := range []api.Berth{sealed(1, 0), sealed(api.MaxEpoch, 4), sealed(3, 2, seven()...), sealed(3, 2, breaks(api.MaxEvents)...)} {
			serves(t, "Sealed", b, e, api.Answer{Code: api.ErrMoving}, false)
		}
		for _, b := range []api.Berth{nobody(0), nobody(3), importing(1, 0), importing(3, 2, seven()...), importing(3, 2, breaks(api.MaxEvents)...)} {
			serves(t, "Nobody or Importing", b, e, api.Answer{Code: api.ErrNone}, false)
		}
	}
}

// P7.2: what may not be asked is refused at each role, with pack's error; a Break, too.
func TestServeRefuses(t *testing.T) {
	for e, want := range map[api.Event]api.Errno{
		{}: api.ErrForm, {Kind: -1}: api.ErrForm, {Kind: 5}: api.ErrForm, {Kind: math.MaxInt}: api.ErrForm, {Kind: 1<<32 + 2}: api.ErrForm,
		publish(-1, 0, 0): api.ErrRange, publish(api.MaxProducers, 0, 0): api.ErrRange, publish(0, -1, 0): api.ErrRange, publish(0, api.MaxId+1, 0): api.ErrRange,
		publish(0, 0, -1): api.ErrRange, publish(0, 0, api.MaxBody+1): api.ErrRange, ack(-1, 0): api.ErrRange, ack(api.MaxEpoch+1, 0): api.ErrRange,
		ack(0, -1): api.ErrRange, ack(0, api.MaxId+1): api.ErrRange, {Kind: api.Receive, Body: 1}: api.ErrForm, {Kind: api.Ack, Id: 1}: api.ErrForm,
		{Kind: api.Publish, Handle: api.Handle{No: 1}}: api.ErrForm, end: api.ErrForm, {Kind: api.Break, Id: -1}: api.ErrForm,
	} {
		for _, b := range append(roles(), nobody(0), active(1), active(1, breaks(api.MaxEvents)...)) {
			got, a, more, c := berth.Serve(b, e)
			if a != (api.Answer{}) || more {
				t.Errorf("Serve of %s, %v: %v, %v", short(b), e, a, more)
			}
			refuses(t, fmt.Sprint("Serve of ", short(b), e), got, c, want)
		}
	}
}

// nearly: a history of n events; behind it the queue's Epoch is n - 6, a message is leased, and another one ready.
func nearly(n int) []api.Event { return join(seven()[:5], breaks(n-6), []api.Event{receive}) }

// P7.2: with MaxEvents - 1 events no more is taken; what makes no event is answered all the same.
func TestServeFull(t *testing.T) {
	for _, n := range []int{api.MaxEvents - 3, api.MaxEvents - 2, api.MaxEvents - 1, api.MaxEvents} {
		for _, b := range []api.Berth{active(2, nearly(n)...), draining(2, 1, 3, nearly(n)...)} {
			for e, want := range map[api.Event]api.Answer{
				publish(0, 2, 8): {},
				receive:          {Handle: api.Handle{Epoch: n - 6, No: 1}, Body: 7},
				ack(n-6, 0):      {},
			} {
				if n >= api.MaxEvents-1 {
					want = api.Answer{Code: api.ErrFull}
				}
				serves(t, fmt.Sprint(n, " events"), b, e, want, n < api.MaxEvents-1)
			}
			serves(t, "an Id once more", b, publish(0, 1, 6), api.Answer{}, false)
			serves(t, "an Id below the window", b, publish(2, 1, 8), api.Answer{Code: api.ErrLow}, false)
			serves(t, "an Ack of no lease", b, ack(n-6, 1), api.Answer{Code: api.ErrNone}, false)
			serves(t, "an old handle", b, ack(0, 0), api.Answer{Code: api.ErrStale}, false)
			b.Events = breaks(n)
			serves(t, "a Receive of nothing", b, receive, api.Answer{Code: api.ErrEmpty}, false)
		}
	}
}

// P7.3: a Nobody of a lower Epoch is Active, without events.
func TestMake(t *testing.T) {
	for _, c := range []struct{ had, epoch int }{{0, 1}, {0, 2}, {0, api.MaxEpoch}, {1, 2}, {1, 3}, {7, 8}, {api.MaxEpoch - 1, api.MaxEpoch}} {
		got, e := berth.Make(nobody(c.had), c.epoch)
		gives(t, fmt.Sprint("Make of ", c), got, e, api.Berth{Role: api.Active, Epoch: c.epoch})
	}
	for _, c := range []struct {
		b     api.Berth
		epoch int
		want  api.Errno
	}{
		{nobody(0), 0, api.ErrRange}, {nobody(0), -1, api.ErrRange}, {nobody(0), api.MaxEpoch + 1, api.ErrRange}, {nobody(0), math.MaxInt, api.ErrRange}, {nobody(0), math.MinInt, api.ErrRange},
		{nobody(0), 1<<32 + 1, api.ErrRange}, {nobody(7), 0, api.ErrRange}, {active(3), 0, api.ErrRange}, {importing(3, 1), api.MaxEpoch + 1, api.ErrRange},
		{active(3), 4, api.ErrTwice}, {draining(3, 1, 0), 4, api.ErrTwice}, {sealed(3, 1), 4, api.ErrTwice}, {importing(3, 1), 4, api.ErrTwice},
		{active(3), 3, api.ErrTwice}, {active(3), 2, api.ErrTwice}, {importing(3, 1), 1, api.ErrTwice}, {active(3, seven()...), 4, api.ErrTwice},
		{nobody(1), 1, api.ErrEpoch}, {nobody(7), 7, api.ErrEpoch}, {nobody(7), 6, api.ErrEpoch}, {nobody(7), 1, api.ErrEpoch}, {nobody(api.MaxEpoch), api.MaxEpoch, api.ErrEpoch},
	} {
		got, e := berth.Make(c.b, c.epoch)
		refuses(t, fmt.Sprint("Make of ", short(c.b), c.epoch), got, e, c.want)
	}
}

// P7.4: an Active berth is Draining, with its Epoch and its events, to whatever node.
func TestGo(t *testing.T) {
	for node := range 5 {
		for _, events := range [][]api.Event{nil, seven(), breaks(api.MaxEvents)} {
			for _, epoch := range []int{1, 3, api.MaxEpoch - 1} {
				got, e := berth.Go(active(epoch, events...), node)
				gives(t, fmt.Sprint("Go to ", node), got, e, draining(epoch, node, 0, events...))
			}
		}
	}
	last := api.MaxEpoch
	for _, c := range []struct {
		b    api.Berth
		to   int
		want api.Errno
	}{
		{active(3), -1, api.ErrRange}, {active(3), 5, api.ErrRange}, {active(3), math.MinInt, api.ErrRange}, {active(3), math.MaxInt, api.ErrRange}, {active(3), 1 << 32, api.ErrRange},
		{draining(3, 1, 0), 5, api.ErrRange}, {sealed(3, 1), -1, api.ErrRange}, {nobody(3), 5, api.ErrRange}, {importing(3, 1), -1, api.ErrRange}, {active(last), 5, api.ErrRange},
		{draining(3, 1, 2), 1, api.ErrMoving}, {draining(3, 1, 0, seven()...), 2, api.ErrMoving}, {sealed(3, 1), 1, api.ErrMoving}, {sealed(3, 1), 0, api.ErrMoving},
		{draining(last, 1, 0), 1, api.ErrMoving}, {sealed(last, 1), 1, api.ErrMoving},
		{nobody(0), 1, api.ErrNone}, {nobody(3), 1, api.ErrNone}, {importing(3, 1), 1, api.ErrNone}, {importing(3, 1), 2, api.ErrNone}, {nobody(last), 1, api.ErrNone}, {importing(last, 1), 2, api.ErrNone},
		{active(last), 0, api.ErrFull}, {active(last, seven()...), 4, api.ErrFull},
	} {
		got, e := berth.Go(c.b, c.to)
		refuses(t, fmt.Sprint("Go of ", short(c.b), c.to), got, e, c.want)
	}
}

// P7.5: when a Draining berth is Sealed, and when it goes on; a Sealed one stays.
func TestCaught(t *testing.T) {
	for _, l := range [][]api.Event{nil, {end}, seven(), nearly(100)} {
		for _, to := range []int{0, 4} {
			for have := range len(l) + 1 {
				for rounds := range 5 {
					want := draining(3, to, rounds+1, l...)
					if have == len(l) || rounds == 4 {
						want = sealed(3, to, l...)
					}
					got, e := berth.Caught(draining(3, to, rounds, l...), have)
					gives(t, fmt.Sprint("Caught, Draining: ", have, " of ", len(l), ", rounds ", rounds), got, e, want)
				}
				got, e := berth.Caught(sealed(3, to, l...), have)
				gives(t, fmt.Sprint("Caught, Sealed: ", have, " of ", len(l)), got, e, sealed(3, to, l...))
			}
		}
	}
	got, e := berth.Caught(draining(api.MaxEpoch, 1, 0, breaks(api.MaxEvents)...), api.MaxEvents)
	gives(t, "Caught, all of MaxEvents", got, e, sealed(api.MaxEpoch, 1, breaks(api.MaxEvents)...))
	got, e = berth.Caught(draining(api.MaxEpoch, 1, 0, breaks(api.MaxEvents)...), api.MaxEvents-1)
	gives(t, "Caught, nearly all of MaxEvents", got, e, draining(api.MaxEpoch, 1, 1, breaks(api.MaxEvents)...))
}

// P7.5: MaxRounds rounds, and one more: then it is Sealed, though the target never has all.
func TestRounds(t *testing.T) {
	b := draining(3, 1, 0, seven()...)
	for rounds := range api.MaxRounds {
		got, e := berth.Caught(b, 0)
		gives(t, "a round", got, e, draining(3, 1, rounds+1, seven()...))
		b = got
	}
	got, e := berth.Caught(b, 0)
	gives(t, "one round more", got, e, sealed(3, 1, seven()...))
}

// P7.5, P7.6: who is neither Draining nor Sealed is ErrNone, whatever is asked; then it must be a number of its events.
func TestTellsNot(t *testing.T) {
	for _, b := range roles() {
		for _, have := range append(slices.Clone(numbers), 7, 8, 9) {
			want := api.ErrNone
			if b.Role == api.Draining || b.Role == api.Sealed {
				if want = api.ErrRange; 0 <= have && have <= 7 {
					continue
				}
			}
			got, e := berth.Caught(b, have)
			refuses(t, fmt.Sprint("Caught of ", short(b), have), got, e, want)
			if l, last, e := berth.Part(b, have); len(l) != 0 || last || e != want {
				t.Errorf("Part of %s, %d: %v, %v, %v; want %v", short(b), have, l, last, e, want)
			}
		}
	}
	for _, b := range []api.Berth{draining(1, 1, 0), sealed(1, 1), draining(1, 1, api.MaxRounds)} { // without events
		got, e := berth.Caught(b, 1)
		refuses(t, fmt.Sprint("Caught of ", short(b)), got, e, api.ErrRange)
		if l, last, e := berth.Part(b, 1); len(l) != 0 || last || e != api.ErrRange {
			t.Errorf("Part of %s: %v, %v, %v", short(b), l, last, e)
		}
	}
}

// P7.6: three events at most from a place on; they are the last ones only where the berth is Sealed.
func TestPart(t *testing.T) {
	for n := range 8 {
		l := seven()[:n]
		for have := range n + 1 {
			want := l[have:]
			if len(want) > 3 {
				want = want[:3]
			}
			for _, b := range []api.Berth{draining(3, 1, 2, l...), draining(3, 1, 4, l...), draining(3, 1, 0, l...)} {
				if p, last, e := berth.Part(b, have); !slices.Equal(p, want) || last || e != api.OK {
					t.Errorf("Part, Draining, %d of %d: %v, %v, %v; want %v", have, n, p, last, e, want)
				}
			}
			if p, last, e := berth.Part(sealed(3, 1, l...), have); !slices.Equal(p, want) || last != (n-have <= 3) || e != api.OK {
				t.Errorf("Part, Sealed, %d of %d: %v, %v, %v; want %v", have, n, p, last, e, want)
			}
		}
	}
	if p, last, e := berth.Part(sealed(3, 1, nearly(api.MaxEvents)...), api.MaxEvents-3); !slices.Equal(p, []api.Event{end, end, receive}) || !last || e != api.OK {
		t.Errorf("Part, the last of MaxEvents: %v, %v, %v", p, last, e)
	}
}

// P7.7: a queue is to come to a Nobody, or to one that is Importing at a lower Epoch: all that it had is gone.
func TestBegin(t *testing.T) {
	last := api.MaxEpoch
	for _, c := range []struct {
		b           api.Berth
		epoch, from int
	}{
		{nobody(0), 1, 0}, {nobody(0), 2, 4}, {nobody(0), last, 1}, {nobody(3), 4, 2}, {nobody(3), 9, 2}, {nobody(last - 1), last, 3},
		{importing(3, 1), 4, 1}, {importing(3, 1, seven()...), 4, 1}, {importing(3, 1, seven()...), 5, 2}, {importing(3, 1), 4, 0}, {importing(last-1, 1), last, 4},
	} {
		got, e := berth.Begin(c.b, c.epoch, c.from)
		gives(t, fmt.Sprint("Begin of ", short(c.b), c.epoch, c.from), got, e, importing(c.epoch, c.from))
	}
	for _, b := range []api.Berth{importing(1, 0), importing(3, 1), importing(3, 4, seven()...), importing(last, 0, breaks(api.MaxEvents)...)} {
		got, e := berth.Begin(b, b.Epoch, b.From)
		gives(t, "Begin, just that", got, e, b)
	}
}

// P7.7: what Begin refuses, and what it says first.
func TestBeginRefuses(t *testing.T) {
	for _, b := range append(roles(), nobody(0)) {
		for _, n := range []int{math.MinInt, -1, 0, api.MaxEpoch + 1, 1<<32 + 1, math.MaxInt} {
			got, e := berth.Begin(b, n, 2)
			refuses(t, fmt.Sprint("Begin of ", short(b), ", epoch ", n), got, e, api.ErrRange)
		}
		for _, n := range []int{math.MinInt, -1, 5, 1 << 32, math.MaxInt} {
			for _, epoch := range []int{1, 3, 4} {
				got, e := berth.Begin(b, epoch, n)
				refuses(t, fmt.Sprint("Begin of ", short(b), ", from ", n), got, e, api.ErrRange)
			}
		}
	}
	for _, b := range []api.Berth{active(3), active(3, seven()...), draining(3, 2, 0), draining(3, 2, 4, seven()...), sealed(3, 2), sealed(3, 2, seven()...)} {
		for _, epoch := range []int{1, 3, 4, api.MaxEpoch} {
			for from := range 5 {
				got, e := berth.Begin(b, epoch, from)
				refuses(t, fmt.Sprint("Begin of ", short(b), epoch, from), got, e, api.ErrTwice)
			}
		}
	}
	for _, c := range []struct {
		b           api.Berth
		epoch, from int
	}{
		{nobody(3), 3, 0}, {nobody(3), 2, 2}, {nobody(3), 1, 0}, {nobody(api.MaxEpoch), api.MaxEpoch, 0}, {nobody(1), 1, 4},
		{importing(3, 2), 3, 1}, {importing(3, 2), 3, 0}, {importing(3, 2), 2, 2}, {importing(3, 2), 1, 2}, {importing(3, 2, seven()...), 3, 4}, {importing(3, 2, seven()...), 2, 2},
		{importing(api.MaxEpoch, 2), api.MaxEpoch, 1}, {importing(3, 0), 3, 1},
	} {
		got, e := berth.Begin(c.b, c.epoch, c.from)
		refuses(t, fmt.Sprint("Begin of ", short(c.b), c.epoch, c.from), got, e, api.ErrEpoch)
	}
}

// P7.8: for each number of events that a berth has, each place, and each number of those that come.
func TestImport(t *testing.T) {
	l := seven()
	for have := range 8 {
		for at := range have + 1 {
			for n := range 8 - at {
				b := importing(3, 1, l[:have]...)
				what := fmt.Sprint("Import of ", n, " from ", at, " on, to ", have)
				all := l[:max(have, at+n)]
				got, e := berth.Import(b, 3, at, l[at:at+n], false)
				gives(t, what, got, e, importing(3, 1, all...))
				got, e = berth.Import(b, 3, at, l[at:at+n], true)
				if at+n < have {
					refuses(t, what+", the last ones", got, e, api.ErrForm)
				} else {
					gives(t, what+", the last ones", got, e, active(3, join(all, []api.Event{end})...))
				}
			}
		}
	}
}

// P7.8: nothing is the last part of a queue without events; the Break stands alone. Breaks may come, too.
func TestImportBreaks(t *testing.T) {
	got, e := berth.Import(importing(1, 0), 1, 0, nil, true)
	gives(t, "nothing", got, e, active(1, end))
	got, e = berth.Import(importing(api.MaxEpoch, 4), api.MaxEpoch, 0, []api.Event{}, true)
	gives(t, "nothing, not nil", got, e, active(api.MaxEpoch, end))
	got, e = berth.Import(importing(2, 4, end), 2, 1, []api.Event{end, end}, true)
	gives(t, "Breaks", got, e, active(2, end, end, end, end))
	got, e = berth.Import(importing(2, 4, end), 2, 0, []api.Event{end, end}, false)
	gives(t, "Breaks, one had", got, e, importing(2, 4, end, end))
}

// P7.8: events for a place that the berth has must be the same, in all their fields, at each of the places.
func TestImportOther(t *testing.T) {
	l := seven()
	for at := range len(l) {
		for bad := at; bad < len(l); bad++ {
			for _, other := range []api.Event{{}, publish(0, 7, 7), {Kind: -1}, {Kind: l[bad].Kind, Producer: l[bad].Producer, Id: l[bad].Id, Body: l[bad].Body + 1, Handle: l[bad].Handle},
				{Kind: l[bad].Kind, Producer: l[bad].Producer, Id: l[bad].Id, Body: l[bad].Body, Handle: api.Handle{Epoch: l[bad].Handle.Epoch, No: l[bad].Handle.No + 1}}} {
				x := slices.Clone(l)
				x[bad] = other
				for _, last := range []bool{false, true} {
					got, e := berth.Import(importing(3, 1, l...), 3, at, x[at:], last)
					refuses(t, fmt.Sprint("Import, another one at ", bad, " from ", at, " on"), got, e, api.ErrForm)
					got, e = berth.Import(importing(3, 1, l...), 3, at, x[at:bad+1], last)
					refuses(t, fmt.Sprint("Import, another one at the end, ", bad, " from ", at, " on"), got, e, api.ErrForm)
				}
			}
		}
	}
}

// P7.8: events that make no history with those ahead of them.
func TestImportNoHistory(t *testing.T) {
	for _, l := range noHistories() {
		for _, last := range []bool{false, true} {
			for at := range len(seven()) + 1 {
				if _, e := history.Replay(join(seven(), l)); e == api.OK { // a Receive has something to receive there
					continue
				}
				got, e := berth.Import(importing(3, 1, seven()[:at]...), 3, at, join(seven()[at:], l), last)
				refuses(t, fmt.Sprint("Import of no history, from ", at, " on"), got, e, api.ErrForm)
			}
			got, e := berth.Import(importing(3, 1), 3, 0, l, last)
			refuses(t, "Import of no history alone", got, e, api.ErrForm)
		}
	}
}

// P7.8: MaxEvents events have room, but not as the last ones: then there is the Break.
func TestImportFull(t *testing.T) {
	for _, have := range []int{0, 10, 1998, 1999, 2000} {
		for _, total := range []int{1998, 1999, 2000, 2001} {
			for _, last := range []bool{false, true} {
				if total < have {
					continue
				}
				what := fmt.Sprint("Import to ", have, ", up to ", total, ", last: ", last)
				b := importing(3, 1, breaks(have)...)
				for _, at := range []int{0, have / 2, have} {
					got, e := berth.Import(b, 3, at, breaks(total-at), last)
					switch {
					case last && total <= 1999:
						gives(t, what, got, e, active(3, breaks(total+1)...))
					case !last && total <= 2000:
						gives(t, what, got, e, importing(3, 1, breaks(total)...))
					default:
						refuses(t, what, got, e, api.ErrForm)
					}
				}
			}
		}
	}
	got, e := berth.Import(importing(3, 1), 3, 0, breaks(1000000), false)
	refuses(t, "a million", got, e, api.ErrForm)
}

// P7.8: what Import refuses, and what it says first.
func TestImportRefuses(t *testing.T) {
	lists := [][]api.Event{nil, seven(), {{}}, breaks(api.MaxEvents + 1)}
	for _, l := range lists {
		for _, last := range []bool{false, true} {
			for _, b := range []api.Berth{nobody(0), nobody(3), active(3, seven()...), draining(3, 1, 0, seven()...), sealed(3, 1, seven()...)} {
				for _, n := range []int{-1, 0, 3, 4} {
					got, e := berth.Import(b, 3, n, l, last)
					refuses(t, fmt.Sprint("Import of ", short(b), n), got, e, api.ErrNone)
					got, e = berth.Import(b, n, 0, l, last)
					refuses(t, fmt.Sprint("Import of ", short(b), ", epoch ", n), got, e, api.ErrNone)
				}
			}
			b := importing(3, 1, seven()...)
			for _, n := range []int{math.MinInt, -1, 0, 1, 2, 4, 5, api.MaxEpoch, api.MaxEpoch + 1, 1<<32 + 3, math.MaxInt} {
				for _, at := range []int{-1, 0, 7, 8} {
					got, e := berth.Import(b, n, at, l, last)
					refuses(t, fmt.Sprint("Import, epoch ", n), got, e, api.ErrEpoch)
				}
			}
			for _, at := range []int{math.MinInt, -1, 8, 9, 1 << 32, math.MaxInt} {
				got, e := berth.Import(b, 3, at, l, last)
				refuses(t, fmt.Sprint("Import at ", at), got, e, api.ErrRange)
			}
			got, e := berth.Import(importing(3, 1), 3, 1, l, last)
			refuses(t, "Import at 1, to nothing", got, e, api.ErrRange)
		}
	}
}

// P7.9: a Sealed berth is Nobody, of its Epoch; whatever epoch above that the queue is at.
func TestForget(t *testing.T) {
	for _, b := range []api.Berth{sealed(1, 0), sealed(3, 4, seven()...), sealed(3, 2, breaks(api.MaxEvents)...), sealed(api.MaxEpoch, 1)} {
		for _, n := range []int{1, 2, 1000, math.MaxInt - api.MaxEpoch} {
			got, e := berth.Forget(b, b.Epoch+n)
			gives(t, fmt.Sprint("Forget of ", short(b), n), got, e, nobody(b.Epoch))
		}
		for _, epoch := range []int{b.Epoch, b.Epoch - 1, 0, -1, math.MinInt} {
			got, e := berth.Forget(b, epoch)
			refuses(t, fmt.Sprint("Forget of ", short(b), epoch), got, e, api.ErrEpoch)
		}
	}
	for _, b := range []api.Berth{nobody(0), nobody(3), active(3, seven()...), draining(3, 1, 0, seven()...), importing(3, 1, seven()...)} {
		for _, epoch := range []int{math.MinInt, 0, 1, 3, 4, math.MaxInt} {
			got, e := berth.Forget(b, epoch)
			refuses(t, fmt.Sprint("Forget of ", short(b), epoch), got, e, api.ErrNone)
		}
	}
}

// P7.9: what comes late does not bring the queue back; what is later does.
func TestForgotten(t *testing.T) {
	b, _ := berth.Forget(sealed(3, 2, seven()...), 4)
	for _, epoch := range []int{1, 2, 3} {
		got, e := berth.Begin(b, epoch, 0)
		refuses(t, fmt.Sprint("a late Begin at ", epoch), got, e, api.ErrEpoch)
		got, e = berth.Make(b, epoch)
		refuses(t, fmt.Sprint("a late Make at ", epoch), got, e, api.ErrEpoch)
		got, e = berth.Import(b, epoch, 0, nil, true)
		refuses(t, fmt.Sprint("a late Import at ", epoch), got, e, api.ErrNone)
	}
	got, e := berth.Begin(b, 5, 2)
	gives(t, "the queue comes again", got, e, importing(5, 2))
}

// P7.10: who served is Active, with a Break; others stay.
func TestWake(t *testing.T) {
	for _, epoch := range []int{1, 3, api.MaxEpoch} {
		for _, l := range [][]api.Event{nil, {end}, seven(), nearly(api.MaxEvents - 1)} {
			want := active(epoch, join(l, []api.Event{end})...)
			for _, b := range []api.Berth{active(epoch, l...), draining(epoch, 0, 0, l...), draining(epoch, 4, 0, l...), draining(epoch, 2, 4, l...)} {
				got, e := berth.Wake(b)
				gives(t, fmt.Sprint("Wake of ", short(b)), got, e, want)
			}
		}
		for _, l := range [][]api.Event{nil, seven(), nearly(api.MaxEvents - 1), breaks(api.MaxEvents)} {
			for _, b := range []api.Berth{nobody(0), nobody(epoch), sealed(epoch, 4, l...), importing(epoch, 4, l...)} {
				got, e := berth.Wake(b)
				gives(t, fmt.Sprint("Wake of ", short(b)), got, e, b)
			}
		}
		for _, l := range [][]api.Event{breaks(api.MaxEvents), nearly(api.MaxEvents)} {
			for _, b := range []api.Berth{active(epoch, l...), draining(epoch, 4, 2, l...)} {
				got, e := berth.Wake(b)
				refuses(t, fmt.Sprint("Wake of ", short(b)), got, e, api.ErrFull)
			}
		}
	}
	b, _ := berth.Wake(active(3, seven()...))
	serves(t, "the old handle", b, ack(1, 0), api.Answer{Code: api.ErrStale}, false)
	serves(t, "the message once more", b, receive, api.Answer{Handle: api.Handle{Epoch: 2}, Body: 6}, true)
}

// call of one of the functions, with what it takes.
type call struct {
	name        string
	epoch, node int
	at          int // Import's, and what Caught and Part are told that the target has
	l           []api.Event
	last        bool
	e           api.Event
}

// outcome of a call: what it answers, whichever call it is.
type outcome struct {
	b    api.Berth
	a    api.Answer
	l    []api.Event
	told bool
	e    api.Errno
}

func (o outcome) same(p outcome) bool {
	return same(o.b, p.b) && o.a == p.a && slices.Equal(o.l, p.l) && o.told == p.told && o.e == p.e
}

// ask the program.
func (c call) ask(b api.Berth) (o outcome) {
	switch c.name {
	case "Check":
		o.e = berth.Check(b)
	case "Serve":
		o.b, o.a, o.told, o.e = berth.Serve(b, c.e)
	case "Make":
		o.b, o.e = berth.Make(b, c.epoch)
	case "Go":
		o.b, o.e = berth.Go(b, c.node)
	case "Caught":
		o.b, o.e = berth.Caught(b, c.at)
	case "Part":
		o.l, o.told, o.e = berth.Part(b, c.at)
	case "Begin":
		o.b, o.e = berth.Begin(b, c.epoch, c.node)
	case "Import":
		o.b, o.e = berth.Import(b, c.epoch, c.at, c.l, c.last)
	case "Forget":
		o.b, o.e = berth.Forget(b, c.epoch)
	case "Wake":
		o.b, o.e = berth.Wake(b)
	}
	return o
}

// rule: an error, and whether it applies.
type rule struct {
	applies bool
	e       api.Errno
}

// unless: the outcome, but the first error that applies, if one does.
func (o outcome) unless(l ...rule) outcome {
	for _, r := range l {
		if r.applies {
			return outcome{e: r.e}
		}
	}
	return o
}

// most of a role's berths, as P7.1 has it: the least Epoch, the greatest From, To and Rounds, and the greatest number of events.
var most = [5]struct{ epoch, from, to, rounds, events int }{{0, 0, 0, 0, 0}, {1, 0, 0, 0, 2000}, {1, 0, 4, 4, 2000}, {1, 0, 4, 0, 2000}, {1, 4, 0, 0, 2000}}

// mayBe, by the model.
func mayBe(b api.Berth) bool {
	if b.Role < 0 || b.Role > 4 {
		return false
	}
	m := most[b.Role]
	_, e := history.Replay(b.Events)
	return b.Epoch >= m.epoch && b.Epoch <= 1<<20 && min(b.From, b.To, b.Rounds) >= 0 &&
		b.From <= m.from && b.To <= m.to && b.Rounds <= m.rounds && len(b.Events) <= m.events && e == api.OK
}

// model of a call: the errors that there are, in the order of the document, and what is answered if none applies.
func (c call) model(b api.Berth) outcome {
	bad := rule{!mayBe(b), api.ErrState}
	low, high := c.epoch < 1 || c.epoch > 1<<20, c.node < 0 || c.node > 4
	here, moving := b.Role == 1 || b.Role == 2 || b.Role == 3, b.Role == 2 || b.Role == 3
	next := b
	switch c.name {
	case "Serve":
		return c.serve(b, bad)
	case "Make":
		return outcome{b: active(c.epoch)}.unless(bad, rule{low, api.ErrRange}, rule{b.Role != 0, api.ErrTwice}, rule{c.epoch <= b.Epoch, api.ErrEpoch})
	case "Go":
		return outcome{b: draining(b.Epoch, c.node, 0, b.Events...)}.unless(bad, rule{high, api.ErrRange}, rule{moving, api.ErrMoving}, rule{b.Role != 1, api.ErrNone}, rule{b.Epoch == 1<<20, api.ErrFull})
	case "Caught":
		if b.Role == 2 {
			if next.Rounds++; next.Rounds == 5 || c.at == len(b.Events) {
				next = sealed(b.Epoch, b.To, b.Events...)
			}
		}
		return outcome{b: next}.unless(bad, rule{!moving, api.ErrNone}, rule{c.at < 0 || c.at > len(b.Events), api.ErrRange})
	case "Part":
		var o outcome
		for i, e := range b.Events {
			if c.at <= i && i-c.at < 3 {
				o.l = append(o.l, e)
			}
		}
		o.told = b.Role == 3 && c.at+3 >= len(b.Events)
		return o.unless(bad, rule{!moving, api.ErrNone}, rule{c.at < 0 || c.at > len(b.Events), api.ErrRange})
	case "Begin":
		just := same(importing(c.epoch, c.node, b.Events...), b)
		if !just {
			next = importing(c.epoch, c.node)
		}
		return outcome{b: next}.unless(bad, rule{low || high, api.ErrRange}, rule{here, api.ErrTwice}, rule{b.Epoch >= c.epoch && !just, api.ErrEpoch})
	case "Import":
		return c.imports(b, bad)
	case "Forget":
		return outcome{b: nobody(b.Epoch)}.unless(bad, rule{b.Role != 3, api.ErrNone}, rule{c.epoch <= b.Epoch, api.ErrEpoch})
	case "Wake":
		if b.Role == 1 || b.Role == 2 {
			next = active(b.Epoch, join(b.Events, []api.Event{end})...)
		}
		return outcome{b: next}.unless(bad, rule{len(next.Events) > 2000, api.ErrFull})
	}
	return outcome{}.unless(bad) // Check
}

// serve, by the model.
func (c call) serve(b api.Berth, bad rule) outcome {
	q, _ := history.Replay(b.Events)
	_, a, changed, wrong := queue.Do(q, c.e)
	o := outcome{b: b, a: a, told: changed}
	switch {
	case b.Role == 3:
		o.a, o.told = api.Answer{Code: api.ErrMoving}, false
	case b.Role == 0 || b.Role == 4:
		o.a, o.told = api.Answer{Code: api.ErrNone}, false
	case changed && len(b.Events) > 1998:
		o.a, o.told = api.Answer{Code: api.ErrFull}, false
	case changed:
		o.b.Events = join(b.Events, []api.Event{c.e})
	}
	return o.unless(bad, rule{wrong != api.OK, wrong}, rule{c.e.Kind == api.Break, api.ErrForm})
}

// imports, by the model: event by event.
func (c call) imports(b api.Berth, bad rule) outcome {
	next, differ := b, false
	next.Events = slices.Clone(b.Events)
	for i, e := range c.l {
		switch at := c.at + i; {
		case at < 0:
		case at < len(b.Events):
			differ = differ || b.Events[at] != e
		default:
			next.Events = append(next.Events, e)
		}
	}
	if c.last {
		differ = differ || len(b.Events)-c.at > len(c.l)
		next = active(b.Epoch, append(next.Events, end)...)
	}
	return outcome{b: next}.unless(bad, rule{b.Role != 4, api.ErrNone}, rule{b.Epoch != c.epoch, api.ErrEpoch},
		rule{c.at < 0 || c.at > len(b.Events), api.ErrRange}, rule{differ || !mayBe(next), api.ErrForm})
}

// spare: the events, with spare room behind them that nobody may write to, and all of it.
func spare(l []api.Event) (events, all []api.Event) {
	mark := api.Event{Kind: -7, Id: math.MinInt}
	all = append(slices.Clone(l), mark, mark, mark)
	return all[:len(l)], all
}

// scribble over a list, its spare room too.
func scribble(l []api.Event) {
	l = l[:cap(l)]
	for i := range l {
		l[i] = api.Event{Kind: -9, Body: -9}
	}
}

// agrees: does a call answer what the model does, leave alone what is handed in, and share its answer with nobody? It answers the outcome.
func agrees(t *testing.T, b api.Berth, c call) outcome {
	t.Helper()
	want := c.model(b)
	what := fmt.Sprint(c.name, " of ", short(b), ", ", c)
	events, all := spare(b.Events)
	l, allComing := spare(c.l)
	kept, keptComing := slices.Clone(all), slices.Clone(allComing)
	b.Events, c.l = events, l
	first, second := c.ask(b), c.ask(b)
	if !first.same(want) {
		t.Errorf("%s: %v; want %v", what, first, want)
	}
	scribble(first.b.Events)
	scribble(first.l)
	if !slices.Equal(all, kept) || !slices.Equal(allComing, keptComing) {
		t.Errorf("%s: what was handed in became %v, %v", what, all, allComing)
	}
	if !second.same(want) {
		t.Errorf("%s, once more: %v; want %v", what, second, want)
	}
	return second
}

// some berths, those that may not be among them, at all edges of all fields.
func someBerths() []api.Berth {
	var l []api.Berth
	for _, role := range []int{-1, 0, 1, 2, 3, 4, 5} {
		for _, epoch := range []int{-1, 0, 1, 3, 1<<20 - 1, 1 << 20, 1<<20 + 1} {
			for _, from := range []int{-1, 0, 1, 4, 5} {
				for _, to := range []int{-1, 0, 4, 5} {
					for _, rounds := range []int{-1, 0, 3, 4, 5} {
						for _, events := range [][]api.Event{nil, {end}, seven(), {receive}} {
							l = append(l, api.Berth{Role: role, Epoch: epoch, From: from, To: to, Rounds: rounds, Events: events})
						}
					}
				}
			}
		}
	}
	return l
}

// someCalls: calls at all edges.
func someCalls() []call {
	l := []call{{name: "Check"}, {name: "Wake"}}
	for _, e := range []api.Event{{}, publish(0, 2, 1), publish(4, 0, 0), receive, ack(1, 0), end} {
		l = append(l, call{name: "Serve", e: e})
	}
	for _, n := range []int{math.MinInt, -1, 0, 1, 2, 4, 5, 6, 7, 8, math.MaxInt} {
		l = append(l, call{name: "Go", node: n}, call{name: "Caught", at: n}, call{name: "Part", at: n})
	}
	for _, epoch := range []int{math.MinInt, 0, 1, 2, 3, 4, 1<<20 - 1, 1 << 20, 1<<20 + 1, math.MaxInt} {
		l = append(l, call{name: "Make", epoch: epoch}, call{name: "Forget", epoch: epoch})
		for _, from := range []int{-1, 0, 1, 4, 5} {
			l = append(l, call{name: "Begin", epoch: epoch, node: from})
		}
		for _, at := range []int{-1, 0, 1, 7, 8} {
			for _, events := range [][]api.Event{nil, {end}, seven(), seven()[1:], {receive}, {{}}} {
				l = append(l, call{name: "Import", epoch: epoch, at: at, l: events, last: true}, call{name: "Import", epoch: epoch, at: at, l: events})
			}
		}
	}
	return l
}

// P7.1 to P7.10: every call at all edges, of berths at all edges, against the model.
func TestEdges(t *testing.T) {
	calls := someCalls()
	for i, b := range someBerths() {
		if mayBe(b) {
			for _, c := range calls {
				agrees(t, b, c)
			}
			continue
		}
		agrees(t, b, calls[0])
		for k := range 3 { // there are many of them, and it is always ErrState
			agrees(t, b, calls[(i*7+k*131)%len(calls)])
		}
	}
}

// die: numbers that look drawn, the same each time.
type die uint64

func (d *die) n(most int) int {
	*d = *d*6364136223846793005 + 1442695040888963407
	return int(uint64(*d>>33) % uint64(most))
}

// event that a client may ask for, mostly.
func (d *die) event() api.Event {
	switch d.n(20) {
	case 0:
		return end
	case 1:
		return publish(d.n(6)-1, d.n(20), d.n(100))
	case 2, 3, 4, 5, 6, 7:
		return ack(d.n(3), d.n(5))
	case 8, 9, 10, 11, 12:
		return receive
	}
	return publish(d.n(2), d.n(20), d.n(100))
}

// call that looks drawn, of a berth, with numbers near those that fit.
func (d *die) call(b api.Berth) call {
	names := []string{"Check", "Serve", "Serve", "Serve", "Serve", "Serve", "Serve", "Serve", "Serve", "Make", "Go", "Caught", "Caught", "Part", "Part", "Begin", "Import", "Import", "Forget", "Wake"}
	c := call{name: names[d.n(len(names))], epoch: b.Epoch + d.n(4) - 1, node: d.n(7) - 1, at: d.n(len(b.Events)+3) - 1, last: d.n(4) == 0, e: d.event()}
	if d.n(2) == 0 {
		c.at = len(b.Events)
	}
	if d.n(3) > 0 && 0 <= c.at && c.at < len(b.Events) {
		c.l = join(b.Events[c.at:])
	}
	for range d.n(4) {
		c.l = append(c.l, d.event())
	}
	if c.name == "Import" && d.n(3) > 0 {
		c.epoch = b.Epoch
	}
	return c
}

// P7.1 to P7.10: drawn calls, one behind the other, against the model; all that is answered may be.
func TestModel(t *testing.T) {
	d := die(7)
	reached := map[int]int{}
	for range 60 {
		b := nobody(d.n(2))
		for range 150 {
			o := agrees(t, b, d.call(b))
			if berth.Check(o.b) != api.OK {
				t.Fatalf("%s, which may not be", short(o.b))
			}
			if o.e == api.OK && (o.b.Role != api.Nobody || o.b.Epoch > 0) {
				b = o.b
			}
			reached[b.Role]++
		}
	}
	for role := range 5 {
		if reached[role] < 100 {
			t.Errorf("the role %d was reached %d times", role, reached[role])
		}
	}
}

// letter from a source to its target.
type letter struct {
	at   int
	l    []api.Event
	last bool
}

// What comes of it: while letters come late, twice, mixed or never, the target has the first of the source's events, whatever clients do; in the end it makes of them what the source made.
func TestMoves(t *testing.T) {
	for seed := range 300 {
		d := die(seed)
		source, target := active(4), importing(5, 1)
		for range d.n(40) {
			source, _, _, _ = serve(t, source, d.event())
		}
		source, _ = berth.Go(source, 2)
		source, target = d.move(t, source, target)
		if want := join(source.Events, []api.Event{end}); !same(target, active(5, want...)) || source.Role != api.Sealed {
			t.Fatalf("the move %d: %s to %s", seed, short(source), short(target))
		}
		made, _ := history.Replay(source.Events)
		ended, _, _, _ := queue.Do(made, end)
		if q, e := history.Replay(target.Events); fmt.Sprint(q) != fmt.Sprint(ended) || e != api.OK {
			t.Errorf("the move %d: %v, want %v", seed, q, ended)
		}
		if b, e := berth.Forget(source, target.Epoch); !same(b, nobody(4)) || e != api.OK {
			t.Errorf("the move %d: Forget: %s, %v", seed, short(b), e)
		}
	}
}

// serve an event; what is refused leaves the berth as it was.
func serve(t *testing.T, b api.Berth, e api.Event) (api.Berth, api.Answer, bool, api.Errno) {
	t.Helper()
	got, a, more, c := berth.Serve(b, e)
	if c != api.OK {
		return b, a, more, c
	}
	if b.Role == api.Sealed && (a != api.Answer{Code: api.ErrMoving} || more || !same(got, b)) {
		t.Errorf("who is sealed answers %v, %v", a, more)
	}
	return got, a, more, c
}

// move a queue, by letters that look drawn, till the target is Active.
func (d *die) move(t *testing.T, source, target api.Berth) (api.Berth, api.Berth) {
	t.Helper()
	var way []letter
	for range 100000 {
		switch have := d.n(len(target.Events) + 1); d.n(5) { // what the target has, or had once
		case 0:
			source, _, _, _ = serve(t, source, d.event())
		case 1:
			source, _ = berth.Caught(source, have)
		case 2:
			if d.n(2) == 0 {
				have = len(target.Events)
			}
			l, last, _ := berth.Part(source, have)
			way = append(way, letter{have, l, last})
		default:
			if len(way) > 0 {
				x := way[d.n(len(way))]
				got, e := berth.Import(target, 5, x.at, x.l, x.last)
				if e != api.OK {
					t.Fatalf("%v is refused by %s: %v", x, short(target), e)
				}
				target = got
			}
		}
		if target.Role == api.Active {
			return source, target
		}
		if history.Common(source.Events, target.Events) != len(target.Events) {
			t.Fatalf("the target has %s, the source %s", short(target), short(source))
		}
	}
	t.Fatal("the move does not end")
	return source, target
}

// Whatever is called, one call behind the other, of whatever berth: calls that are drawn by a seed. (P7.1 to P7.10)
func FuzzBerth(f *testing.F) {
	f.Add(uint64(1), 1, 1, 0, 0, 0)
	f.Add(uint64(2), 2, 3, 0, 2, 1)
	f.Add(uint64(3), 3, 3, 0, 4, 0)
	f.Add(uint64(4), 4, api.MaxEpoch, 4, 0, 0)
	f.Add(uint64(5), 5, -1, 9, 9, 9)
	f.Fuzz(func(t *testing.T, seed uint64, role, epoch, from, to, rounds int) {
		d := die(seed)
		b := api.Berth{Role: role, Epoch: epoch, From: from, To: to, Rounds: rounds}
		for range 30 {
			if o := agrees(t, b, d.call(b)); o.e == api.OK && (o.b.Role != api.Nobody || o.b.Epoch > 0) {
				b = o.b
			}
		}
	})
}
