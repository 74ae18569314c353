package queue_test

import (
	"math"
	"slices"
	"testing"

	"berthshift/api"
	"berthshift/queue"
)

func publish(producer, id, body int) api.Event {
	return api.Event{Kind: api.Publish, Producer: producer, Id: id, Body: body}
}

func ack(epoch, no int) api.Event {
	return api.Event{Kind: api.Ack, Handle: api.Handle{Epoch: epoch, No: no}}
}

var (
	receive = api.Event{Kind: api.Receive}
	end     = api.Event{Kind: api.Break}
)

// of: a window, what it remembers written as a text, the lowest one first: x was taken.
func of(top int, taken string) api.Window {
	w := api.Window{Top: top}
	for i := range w.Seen {
		w.Seen[i] = taken[i] == 'x'
	}
	return w
}

// ready: messages with these Nos, each one's Body ten times its No.
func ready(nos ...int) []api.Message {
	var l []api.Message
	for _, n := range nos {
		l = append(l, api.Message{No: n, Body: 10 * n})
	}
	return l
}

// leases of the epoch: each pair is a handle's No and a message's.
func leases(epoch int, pairs ...[2]int) []api.Lease {
	var l []api.Lease
	for _, p := range pairs {
		l = append(l, api.Lease{Handle: api.Handle{Epoch: epoch, No: p[0]}, Message: api.Message{No: p[1], Body: 10 * p[1]}})
	}
	return l
}

// row of n messages that are ready, from the No first on.
func row(first, n int) []api.Message {
	var l []api.Message
	for i := range n {
		l = append(l, api.Message{No: first + i, Body: i})
	}
	return l
}

// copyOf a queue, in other memory.
func copyOf(q api.Queue) api.Queue {
	q.Ready = append([]api.Message(nil), q.Ready...)
	q.Leases = append([]api.Lease(nil), q.Leases...)
	return q
}

// same: are two queues the same? A list without elements may be nil or not.
func same(a, b api.Queue) bool {
	return a.Epoch == b.Epoch && a.Next == b.Next && a.Given == b.Given && a.Windows == b.Windows &&
		slices.Equal(a.Ready, b.Ready) && slices.Equal(a.Leases, b.Leases)
}

// behind events, from a queue on; none may be refused with an error.
func behind(t *testing.T, q api.Queue, l ...api.Event) api.Queue {
	t.Helper()
	for _, e := range l {
		var refused api.Errno
		if q, _, _, refused = queue.Do(q, e); refused != api.OK {
			t.Fatalf("Do of %v, of %v: %v", e, l, refused)
		}
	}
	return q
}

// A case of Do: of a queue that may be, and an event that may be.
type one struct {
	what    string
	q       api.Queue
	e       api.Event
	want    api.Queue
	answer  api.Answer
	changed bool
}

// refused: nothing changes, and the answer has a Code alone.
func refused(what string, q api.Queue, e api.Event, code api.Errno) one {
	return one{what, q, e, q, api.Answer{Code: code}, false}
}

func try(t *testing.T, l ...one) {
	t.Helper()
	for _, c := range l {
		before := copyOf(c.q)
		got, a, changed, e := queue.Do(c.q, c.e)
		if !same(got, c.want) || a != c.answer || changed != c.changed || e != api.OK {
			t.Errorf("%s: %v, %v, %v, %v; want %v, %v, %v", c.what, got, a, changed, e, c.want, c.answer, c.changed)
		}
		if !same(c.q, before) {
			t.Errorf("%s: what was handed in became %v", c.what, c.q)
		}
		if queue.Check(c.q) != api.OK || queue.Check(got) != api.OK {
			t.Errorf("%s: a queue may not be: %v or %v", c.what, c.q, got)
		}
	}
}

// some queues that may be, ordinary ones and such at the edges.
func some() map[string]api.Queue {
	return map[string]api.Queue{
		"nothing":             {},
		"lists not nil":       {Ready: []api.Message{}, Leases: []api.Lease{}},
		"one ready":           {Next: 1, Ready: ready(0)},
		"one leased":          {Next: 1, Given: 1, Leases: leases(0, [2]int{0, 0})},
		"both":                {Epoch: 3, Next: 9, Given: 5, Ready: ready(2, 5, 8), Leases: leases(3, [2]int{1, 4}, [2]int{4, 7})},
		"leased behind ready": {Epoch: 1, Next: 4, Given: 2, Ready: ready(0, 2), Leases: leases(1, [2]int{0, 3}, [2]int{1, 1})},
		"all acked":           {Epoch: 1, Next: 4, Given: 4},
		"windows":             {Windows: [api.MaxProducers]api.Window{of(1, ".......x"), of(8, "x......x"), of(100, ".x.....x"), of(api.MaxId+1, "x......x")}},
		"the greatest Epoch":  {Epoch: api.MaxEpoch, Next: 1, Given: 1, Leases: leases(api.MaxEpoch, [2]int{0, 0})},
		"the greatest Next":   {Next: api.MaxId, Ready: []api.Message{{No: api.MaxId - 1}}},
		"the greatest Given":  {Next: 2, Given: api.MaxId, Ready: ready(0), Leases: leases(0, [2]int{api.MaxId - 1, 1})},
		"the greatest Body":   {Next: 2, Given: 1, Ready: []api.Message{{No: 0, Body: api.MaxBody}}, Leases: []api.Lease{{Message: api.Message{No: 1, Body: api.MaxBody}}}},
		"MaxReady":            {Next: api.MaxReady, Ready: row(0, api.MaxReady)},
		"MaxReady, one leased": {Next: api.MaxReady, Given: 1, Ready: row(1, api.MaxReady-1),
			Leases: leases(0, [2]int{0, 0})},
	}
}

// wrong: queues that may not be; each one has one fault alone.
func wrong() map[string]api.Queue {
	both := some()["both"]
	with := func(change func(q *api.Queue)) api.Queue {
		q := copyOf(both)
		change(&q)
		return q
	}
	l := map[string]api.Queue{
		"Epoch below 0":             {Epoch: -1},
		"Epoch too great":           {Epoch: api.MaxEpoch + 1},
		"Next below 0":              {Next: -1},
		"Next too great":            {Next: api.MaxId + 1},
		"Given below 0":             {Given: -1},
		"Given too great":           {Given: api.MaxId + 1},
		"Epoch far below":           {Epoch: math.MinInt},
		"Epoch far above":           {Epoch: math.MaxInt},
		"Next far below":            {Next: math.MinInt},
		"Next so far that it wraps": {Next: math.MinInt, Ready: ready(0)},
		"Next far above":            {Next: math.MaxInt},
		"Given far below":           {Given: math.MinInt, Leases: leases(0, [2]int{0, 0})},
		"Given far above":           {Given: math.MaxInt},
		"Epoch above 32 bits":       {Epoch: 1 << 32},
		"Next above 32 bits":        {Next: 1 << 32},
		"Given above 32 bits":       {Given: 1 << 32},

		"ready, of no Next":       {Ready: ready(0)},
		"ready, No is Next":       with(func(q *api.Queue) { q.Ready[2].No = q.Next }),
		"ready, No below 0":       with(func(q *api.Queue) { q.Ready[0].No = -1 }),
		"ready, No far below 0":   with(func(q *api.Queue) { q.Ready[0].No = math.MinInt }),
		"ready, No far above":     with(func(q *api.Queue) { q.Ready[2].No = math.MaxInt }),
		"ready, Body below 0":     with(func(q *api.Queue) { q.Ready[1].Body = -1 }),
		"ready, Body too great":   with(func(q *api.Queue) { q.Ready[1].Body = api.MaxBody + 1 }),
		"ready, Body far below 0": with(func(q *api.Queue) { q.Ready[0].Body = math.MinInt }),
		"ready, one No twice":     with(func(q *api.Queue) { q.Ready[1].No = q.Ready[0].No }),
		"ready, Nos fall":         with(func(q *api.Queue) { q.Ready[0], q.Ready[1] = q.Ready[1], q.Ready[0] }),
		"ready, the last falls":   with(func(q *api.Queue) { q.Ready[2].No = 3 }),

		"leased, No is Next":         with(func(q *api.Queue) { q.Leases[1].Message.No = q.Next }),
		"leased, No below 0":         with(func(q *api.Queue) { q.Leases[0].Message.No = -1 }),
		"leased, Body below 0":       with(func(q *api.Queue) { q.Leases[0].Message.Body = -1 }),
		"leased, Body too great":     with(func(q *api.Queue) { q.Leases[1].Message.Body = api.MaxBody + 1 }),
		"leased, one No twice":       with(func(q *api.Queue) { q.Leases[1].Message.No = q.Leases[0].Message.No }),
		"leased and ready, first":    with(func(q *api.Queue) { q.Leases[0].Message.No = q.Ready[0].No }),
		"leased and ready, last":     with(func(q *api.Queue) { q.Leases[1].Message.No = q.Ready[2].No }),
		"handle of an older epoch":   with(func(q *api.Queue) { q.Leases[0].Handle.Epoch-- }),
		"handle of a later epoch":    with(func(q *api.Queue) { q.Leases[1].Handle.Epoch++ }),
		"handle, No is Given":        with(func(q *api.Queue) { q.Leases[1].Handle.No = q.Given }),
		"handle, No below 0":         with(func(q *api.Queue) { q.Leases[0].Handle.No = -1 }),
		"handle, No far below 0":     with(func(q *api.Queue) { q.Leases[0].Handle.No = math.MinInt }),
		"handle, none given":         with(func(q *api.Queue) { q.Given = 0 }),
		"handle, one No twice":       with(func(q *api.Queue) { q.Leases[0].Handle.No = q.Leases[1].Handle.No }),
		"handle, Nos fall":           with(func(q *api.Queue) { q.Leases[0], q.Leases[1] = q.Leases[1], q.Leases[0] }),
		"MaxReady and one, ready":    {Next: api.MaxReady + 1, Ready: row(0, api.MaxReady+1)},
		"MaxReady ready, one leased": {Next: api.MaxReady + 1, Given: 1, Ready: row(1, api.MaxReady), Leases: leases(0, [2]int{0, 0})},
	}
	many := api.Queue{Next: api.MaxReady + 1, Given: api.MaxReady + 1}
	for i := range api.MaxReady + 1 {
		many.Leases = append(many.Leases, leases(0, [2]int{i, i})...)
		many.Leases[i].Message.Body = 0
	}
	l["MaxReady and one, leased"] = many
	for i := range api.MaxProducers {
		q := both
		q.Windows[i] = of(2, "......x.")
		l["window of the producer "+string(rune('0'+i))] = q
	}
	return l
}

// P4.1: queues that may be, and such that may not.
func TestCheck(t *testing.T) {
	for what, q := range some() {
		if got := queue.Check(q); got != api.OK {
			t.Errorf("%s: Check: %v", what, got)
		}
	}
	for what, q := range wrong() {
		if got := queue.Check(q); got != api.ErrState {
			t.Errorf("%s: Check: %v", what, got)
		}
	}
	for _, c := range []struct {
		what string
		w    api.Window
	}{
		{"Top below 0", of(-1, "........")}, {"Top too great", of(api.MaxId+2, ".......x")},
		{"an id below 0", of(1, "......xx")}, {"without Top - 1", of(8, "x.......")},
	} {
		if got := queue.Check(api.Queue{Windows: [api.MaxProducers]api.Window{2: c.w}}); got != api.ErrState {
			t.Errorf("a window, %s: %v", c.what, got)
		}
	}
}

// P4.1, P4.2: a queue that may not be is refused ahead of all that is wrong with an event, and nothing else is answered.
func TestMayNotBe(t *testing.T) {
	for what, q := range wrong() {
		for _, e := range []api.Event{publish(0, 0, 0), publish(3, api.MaxId, 7), receive, ack(3, 1), ack(0, 0), end, {}, {Kind: 5}, publish(-1, 0, 0), ack(-1, 0)} {
			got, a, changed, refused := queue.Do(q, e)
			if !same(got, api.Queue{}) || a != (api.Answer{}) || changed || refused != api.ErrState {
				t.Errorf("%s: Do of %v: %v, %v, %v, %v", what, e, got, a, changed, refused)
			}
		}
	}
}

// P4.2: events that may not be are refused with pack's error, and nothing else is answered.
func TestEventMayNotBe(t *testing.T) {
	for _, c := range []struct {
		e    api.Event
		want api.Errno
	}{
		{api.Event{}, api.ErrForm},
		{api.Event{Kind: -1}, api.ErrForm},
		{api.Event{Kind: 5}, api.ErrForm},
		{api.Event{Kind: math.MinInt}, api.ErrForm},
		{api.Event{Kind: math.MaxInt}, api.ErrForm},
		{api.Event{Kind: 1<<32 + 2}, api.ErrForm},
		{publish(-1, 0, 0), api.ErrRange},
		{publish(api.MaxProducers, 0, 0), api.ErrRange},
		{publish(math.MinInt, 0, 0), api.ErrRange},
		{publish(math.MaxInt, 0, 0), api.ErrRange},
		{publish(0, -1, 0), api.ErrRange},
		{publish(0, api.MaxId+1, 0), api.ErrRange},
		{publish(0, 0, -1), api.ErrRange},
		{publish(0, 0, api.MaxBody+1), api.ErrRange},
		{ack(-1, 0), api.ErrRange},
		{ack(api.MaxEpoch+1, 0), api.ErrRange},
		{ack(0, -1), api.ErrRange},
		{ack(0, api.MaxId+1), api.ErrRange},
		{api.Event{Kind: api.Publish, Handle: api.Handle{No: 1}}, api.ErrForm},
		{api.Event{Kind: api.Receive, Body: 1}, api.ErrForm},
		{api.Event{Kind: api.Receive, Handle: api.Handle{Epoch: 1}}, api.ErrForm},
		{api.Event{Kind: api.Ack, Producer: 1}, api.ErrForm},
		{api.Event{Kind: api.Break, Id: 1}, api.ErrForm},
	} {
		for what, q := range some() {
			got, a, changed, e := queue.Do(q, c.e)
			if !same(got, api.Queue{}) || a != (api.Answer{}) || changed || e != c.want {
				t.Errorf("%s: Do of %v: %v, %v, %v, %v; want %v", what, c.e, got, a, changed, e, c.want)
			}
		}
	}
}

// P4.3: a new id, one again, one below the window; a queue that is full, of messages or of Nos.
func TestPublish(t *testing.T) {
	done := api.Answer{}
	mixed := api.Queue{Epoch: 3, Next: 9, Given: 5, Ready: ready(2, 8), Leases: leases(3, [2]int{4, 7})}
	mixed.Windows[1] = of(100, "x.xx...x")
	next := func(q api.Queue, producer int, w api.Window, body int) api.Queue {
		q = copyOf(q)
		q.Windows[producer] = w
		q.Ready = append(q.Ready, api.Message{No: q.Next, Body: body})
		q.Next++
		return q
	}
	full := api.Queue{Next: 600, Ready: row(100, api.MaxReady), Windows: mixed.Windows}
	leased := api.Queue{Next: 600, Given: 3, Ready: row(100, api.MaxReady-2), Leases: leases(0, [2]int{0, 1}, [2]int{2, 3}), Windows: mixed.Windows}
	room := api.Queue{Next: 600, Ready: row(100, api.MaxReady-1), Windows: mixed.Windows}
	roomLeased := api.Queue{Next: 600, Given: 3, Ready: row(100, api.MaxReady-2), Leases: leases(0, [2]int{2, 3})}
	last := api.Queue{Next: api.MaxId, Windows: mixed.Windows}
	almost := api.Queue{Next: api.MaxId - 1}
	try(t,
		one{"the first", api.Queue{}, publish(0, 0, 5), api.Queue{Next: 1, Ready: []api.Message{{No: 0, Body: 5}},
			Windows: [api.MaxProducers]api.Window{of(1, ".......x")}}, done, true},
		one{"the last producer, the greatest numbers", api.Queue{}, publish(3, api.MaxId, api.MaxBody),
			next(api.Queue{}, 3, of(api.MaxId+1, ".......x"), api.MaxBody), done, true},
		one{"behind the others", mixed, publish(1, 100, 77), next(mixed, 1, of(101, ".xx...xx"), 77), done, true},
		one{"a late id", mixed, publish(1, 93, 0), next(mixed, 1, of(100, "xxxx...x"), 0), done, true},
		one{"another producer's window", mixed, publish(2, 92, 1), next(mixed, 2, of(93, ".......x"), 1), done, true},
		refused("once more", mixed, publish(1, 99, 990), api.OK),
		refused("the lowest once more", mixed, publish(1, 92, 5), api.OK),
		refused("below the window", mixed, publish(1, 91, 5), api.ErrLow),
		refused("far below the window", mixed, publish(1, 0, 5), api.ErrLow),

		refused("MaxReady ready", full, publish(1, 100, 5), api.ErrFull),
		refused("MaxReady ready, a late id", full, publish(1, 93, 5), api.ErrFull),
		refused("MaxReady ready, another producer", full, publish(0, 0, 5), api.ErrFull),
		refused("MaxReady ready, once more", full, publish(1, 99, 5), api.OK),
		refused("MaxReady ready, below the window", full, publish(1, 91, 5), api.ErrLow),
		refused("MaxReady, some leased", leased, publish(1, 100, 5), api.ErrFull),
		refused("MaxReady, some leased, once more", leased, publish(1, 92, 5), api.OK),
		one{"room for one", room, publish(1, 100, 5), next(room, 1, of(101, ".xx...xx"), 5), done, true},
		one{"room for one, some leased", roomLeased, publish(0, 0, 5), next(roomLeased, 0, of(1, ".......x"), 5), done, true},

		refused("Next is MaxId", last, publish(1, 100, 5), api.ErrFull),
		refused("Next is MaxId, once more", last, publish(1, 99, 5), api.OK),
		refused("Next is MaxId, below the window", last, publish(1, 91, 5), api.ErrLow),
		one{"Next is below MaxId by one", almost, publish(0, 0, 5), next(almost, 0, of(1, ".......x"), 5), done, true},
	)
}

// P4.4: the first that is ready, under the next handle; nothing ready, no handle left, and both.
func TestReceive(t *testing.T) {
	both := api.Queue{Epoch: 3, Next: 9, Given: 5, Ready: ready(2, 5, 8), Leases: leases(3, [2]int{1, 4}, [2]int{4, 7})}
	both.Windows[1] = of(100, "x.xx...x")
	want := copyOf(both)
	want.Given, want.Ready, want.Leases = 6, ready(5, 8), leases(3, [2]int{1, 4}, [2]int{4, 7}, [2]int{5, 2})
	almost := api.Queue{Next: 2, Given: api.MaxId - 1, Ready: ready(0, 1)}
	try(t,
		one{"the first", api.Queue{Next: 1, Ready: []api.Message{{Body: 5}}}, receive,
			api.Queue{Next: 1, Given: 1, Leases: []api.Lease{{Message: api.Message{Body: 5}}}}, api.Answer{Body: 5}, true},
		one{"behind others", both, receive, want, api.Answer{Handle: api.Handle{Epoch: 3, No: 5}, Body: 20}, true},
		one{"handles of acked messages are not given again", api.Queue{Epoch: api.MaxEpoch, Next: 5, Given: 4, Ready: ready(4)}, receive,
			api.Queue{Epoch: api.MaxEpoch, Next: 5, Given: 5, Leases: leases(api.MaxEpoch, [2]int{4, 4})},
			api.Answer{Handle: api.Handle{Epoch: api.MaxEpoch, No: 4}, Body: 40}, true},
		refused("nothing", api.Queue{}, receive, api.ErrEmpty),
		refused("all leased", api.Queue{Next: 1, Given: 1, Leases: leases(0, [2]int{0, 0})}, receive, api.ErrEmpty),
		refused("nothing ready, and no handle left", api.Queue{Given: api.MaxId}, receive, api.ErrEmpty),
		refused("no handle left", api.Queue{Next: 1, Given: api.MaxId, Ready: ready(0)}, receive, api.ErrFull),
		one{"the last handle", almost, receive, api.Queue{Next: 2, Given: api.MaxId, Ready: ready(1), Leases: leases(0, [2]int{api.MaxId - 1, 0})},
			api.Answer{Handle: api.Handle{No: api.MaxId - 1}}, true},
	)
}

// P4.5: each lease, whatever its place; a handle of another epoch, one with no lease, and both.
func TestAck(t *testing.T) {
	q := api.Queue{Epoch: 3, Next: 9, Given: 6, Ready: ready(2, 8), Leases: leases(3, [2]int{1, 4}, [2]int{2, 7}, [2]int{4, 0})}
	q.Windows[1] = of(100, "x.xx...x")
	without := func(pairs ...[2]int) api.Queue {
		x := copyOf(q)
		x.Leases = leases(3, pairs...)
		return x
	}
	top := api.Queue{Epoch: api.MaxEpoch, Next: 1, Given: api.MaxId, Leases: leases(api.MaxEpoch, [2]int{api.MaxId - 1, 0})}
	try(t,
		one{"the first lease", q, ack(3, 1), without([2]int{2, 7}, [2]int{4, 0}), api.Answer{}, true},
		one{"one in the middle", q, ack(3, 2), without([2]int{1, 4}, [2]int{4, 0}), api.Answer{}, true},
		one{"the last lease", q, ack(3, 4), without([2]int{1, 4}, [2]int{2, 7}), api.Answer{}, true},
		one{"the greatest handle", top, ack(api.MaxEpoch, api.MaxId-1), api.Queue{Epoch: api.MaxEpoch, Next: 1, Given: api.MaxId}, api.Answer{}, true},
		refused("an older epoch", q, ack(2, 1), api.ErrStale),
		refused("a later epoch", q, ack(4, 1), api.ErrStale),
		refused("the epoch 0", q, ack(0, 1), api.ErrStale),
		refused("the greatest epoch, and a No that was not given", q, ack(api.MaxEpoch, api.MaxId), api.ErrStale),
		refused("acked before", q, ack(3, 0), api.ErrNone),
		refused("acked before, in the middle", q, ack(3, 3), api.ErrNone),
		refused("acked before, the last one", q, ack(3, 5), api.ErrNone),
		refused("not given yet", q, ack(3, 6), api.ErrNone),
		refused("far from given", q, ack(3, api.MaxId), api.ErrNone),
		refused("a message's No is no handle's", q, ack(3, 7), api.ErrNone),
		refused("no leases", api.Queue{}, ack(0, 0), api.ErrNone),
		refused("no leases, another epoch", api.Queue{}, ack(1, 0), api.ErrStale),
	)
}

// P4.6: messages come back among those that are ready; without leases the epoch rises all the same; the greatest one does not.
func TestBreak(t *testing.T) {
	windows := [api.MaxProducers]api.Window{2: of(100, "x.xx...x")}
	high := api.Queue{Epoch: api.MaxEpoch, Next: 1, Given: 1, Leases: leases(api.MaxEpoch, [2]int{0, 0})}
	try(t,
		one{"nothing", api.Queue{}, end, api.Queue{Epoch: 1}, api.Answer{}, true},
		one{"nothing leased", api.Queue{Next: 9, Given: 3, Ready: ready(2, 5)}, end, api.Queue{Epoch: 1, Next: 9, Ready: ready(2, 5)}, api.Answer{}, true},
		one{"ahead of the ready ones", api.Queue{Epoch: 1, Next: 9, Given: 3, Ready: ready(5, 6), Leases: leases(1, [2]int{0, 2}, [2]int{2, 4})}, end,
			api.Queue{Epoch: 2, Next: 9, Ready: ready(2, 4, 5, 6)}, api.Answer{}, true},
		one{"among the ready ones, in no order", api.Queue{Epoch: 3, Next: 9, Given: 9, Windows: windows, Ready: ready(2, 5, 6),
			Leases: leases(3, [2]int{1, 7}, [2]int{2, 0}, [2]int{4, 4}, [2]int{8, 3})}, end,
			api.Queue{Epoch: 4, Next: 9, Windows: windows, Ready: ready(0, 2, 3, 4, 5, 6, 7)}, api.Answer{}, true},
		one{"behind the ready ones", api.Queue{Next: 9, Given: 1, Ready: ready(2), Leases: leases(0, [2]int{0, 8})}, end,
			api.Queue{Epoch: 1, Next: 9, Ready: ready(2, 8)}, api.Answer{}, true},
		one{"up to the greatest epoch", api.Queue{Epoch: api.MaxEpoch - 1, Next: 1, Given: api.MaxId, Leases: leases(api.MaxEpoch-1, [2]int{3, 0})}, end,
			api.Queue{Epoch: api.MaxEpoch, Next: 1, Ready: ready(0)}, api.Answer{}, true},
		refused("the greatest epoch", high, end, api.ErrFull),
		refused("the greatest epoch, nothing leased", api.Queue{Epoch: api.MaxEpoch}, end, api.ErrFull),
	)
}

// The chapter's example: behind Publish, Publish, Receive and Break both messages are ready, the first one first, and its old handle is ErrStale.
func TestExample(t *testing.T) {
	q := behind(t, api.Queue{}, publish(0, 0, 5), publish(0, 1, 6), receive, end)
	want := api.Queue{Epoch: 1, Next: 2, Ready: []api.Message{{No: 0, Body: 5}, {No: 1, Body: 6}}}
	want.Windows[0] = of(2, "......xx")
	if !same(q, want) {
		t.Errorf("%v, want %v", q, want)
	}
	try(t, refused("the old handle", q, ack(0, 0), api.ErrStale))
}

// What holds everywhere: what is handed in is not changed, its spare room neither, and what is answered shares nothing with it.
func TestMemory(t *testing.T) {
	mark, markLease := api.Message{No: -7, Body: -7}, api.Lease{Handle: api.Handle{Epoch: -7}}
	for what, q := range some() {
		for _, e := range []api.Event{publish(0, 50, 5), publish(0, 0, 5), receive, ack(q.Epoch, 0), ack(q.Epoch, 1), ack(q.Epoch, 4), end, {}} {
			roomy := q
			roomy.Ready = slices.Grow(copyOf(q).Ready, 3)
			roomy.Leases = slices.Grow(copyOf(q).Leases, 3)
			allReady, allLeases := roomy.Ready[:cap(roomy.Ready)], roomy.Leases[:cap(roomy.Leases)]
			for i := len(q.Ready); i < len(allReady); i++ {
				allReady[i] = mark
			}
			for i := len(q.Leases); i < len(allLeases); i++ {
				allLeases[i] = markLease
			}
			keptReady, keptLeases := slices.Clone(allReady), slices.Clone(allLeases)
			kept := func(when string) {
				if !same(roomy, q) || !slices.Equal(allReady, keptReady) || !slices.Equal(allLeases, keptLeases) {
					t.Errorf("%s, %v: %s: what was handed in became %v", what, e, when, roomy)
				}
			}
			queue.Check(roomy)
			kept("Check")
			got, _, _, _ := queue.Do(roomy, e)
			kept("Do")
			again, _, _, _ := queue.Do(roomy, e)
			was := copyOf(again)
			for i := range got.Ready[:cap(got.Ready)] {
				got.Ready[:cap(got.Ready)][i] = api.Message{No: -9}
			}
			for i := range got.Leases[:cap(got.Leases)] {
				got.Leases[:cap(got.Leases)][i] = api.Lease{Handle: api.Handle{No: -9}}
			}
			kept("the answer was overwritten")
			if !same(again, was) {
				t.Errorf("%s, %v: two answers share memory", what, e)
			}
		}
	}
}

// model of a queue, by another way than the program's: each message that is there, by its No, with the No of its handle (-1: it is ready).
type model struct {
	epoch, next, given int
	body, handle       map[int]int
	top                [4]int
	taken              [4]map[int]int
}

func modelOf(q api.Queue) *model {
	m := &model{epoch: q.Epoch, next: q.Next, given: q.Given, body: map[int]int{}, handle: map[int]int{}}
	for _, x := range q.Ready {
		m.body[x.No], m.handle[x.No] = x.Body, -1
	}
	for _, l := range q.Leases {
		m.body[l.Message.No], m.handle[l.Message.No] = l.Message.Body, l.Handle.No
	}
	for p, w := range q.Windows {
		m.top[p], m.taken[p] = w.Top, map[int]int{}
		for i, x := range w.Seen {
			if x {
				m.taken[p][w.Top-8+i] = 1
			}
		}
	}
	return m
}

// queue that the model tells.
func (m *model) queue() api.Queue {
	q := api.Queue{Epoch: m.epoch, Next: m.next, Given: m.given}
	for no, h := range m.handle {
		x := api.Message{No: no, Body: m.body[no]}
		if h < 0 {
			q.Ready = append(q.Ready, x)
		} else {
			q.Leases = append(q.Leases, api.Lease{Handle: api.Handle{Epoch: m.epoch, No: h}, Message: x})
		}
	}
	slices.SortFunc(q.Ready, func(a, b api.Message) int { return a.No - b.No })
	slices.SortFunc(q.Leases, func(a, b api.Lease) int { return a.Handle.No - b.Handle.No })
	for p := range q.Windows {
		q.Windows[p].Top = m.top[p]
		for i := range q.Windows[p].Seen {
			q.Windows[p].Seen[i] = m.taken[p][m.top[p]-8+i] == 1
		}
	}
	return q
}

func (m *model) publish(e api.Event) (api.Answer, bool) {
	p := e.Producer
	switch {
	case e.Id < m.top[p]-8:
		return api.Answer{Code: api.ErrLow}, false
	case m.taken[p][e.Id] == 1:
		return api.Answer{}, false
	case len(m.body) == 500 || m.next == 1<<30:
		return api.Answer{Code: api.ErrFull}, false
	}
	m.taken[p][e.Id] = 1
	m.top[p] = max(m.top[p], e.Id+1)
	m.body[m.next], m.handle[m.next] = e.Body, -1
	m.next++
	return api.Answer{}, true
}

func (m *model) receive() (api.Answer, bool) {
	first := -1
	for no, h := range m.handle {
		if h < 0 && (first < 0 || no < first) {
			first = no
		}
	}
	if first < 0 {
		return api.Answer{Code: api.ErrEmpty}, false
	}
	if m.given == 1<<30 {
		return api.Answer{Code: api.ErrFull}, false
	}
	m.handle[first] = m.given
	m.given++
	return api.Answer{Handle: api.Handle{Epoch: m.epoch, No: m.given - 1}, Body: m.body[first]}, true
}

func (m *model) ack(h api.Handle) (api.Answer, bool) {
	if h.Epoch != m.epoch {
		return api.Answer{Code: api.ErrStale}, false
	}
	for no, x := range m.handle {
		if x == h.No {
			delete(m.handle, no)
			delete(m.body, no)
			return api.Answer{}, true
		}
	}
	return api.Answer{Code: api.ErrNone}, false
}

func (m *model) end() (api.Answer, bool) {
	if m.epoch == 1<<20 {
		return api.Answer{Code: api.ErrFull}, false
	}
	for no := range m.handle {
		m.handle[no] = -1
	}
	m.epoch++
	m.given = 0
	return api.Answer{}, true
}

// agrees: does Do answer as the model does? What is behind the event is answered.
func agrees(t *testing.T, q api.Queue, e api.Event) (api.Queue, api.Answer) {
	t.Helper()
	m, a, changed := modelOf(q), api.Answer{}, false
	switch e.Kind {
	case api.Publish:
		a, changed = m.publish(e)
	case api.Receive:
		a, changed = m.receive()
	case api.Ack:
		a, changed = m.ack(e.Handle)
	case api.Break:
		a, changed = m.end()
	}
	before := copyOf(q)
	got, gotAnswer, gotChanged, refused := queue.Do(q, e)
	if want := m.queue(); !same(got, want) || gotAnswer != a || gotChanged != changed || refused != api.OK {
		t.Fatalf("Do of %v, %v: %v, %v, %v, %v; want %v, %v, %v", q, e, got, gotAnswer, gotChanged, refused, want, a, changed)
	}
	if changed == same(got, before) {
		t.Fatalf("Do of %v, %v: changed: %v, and it is %v", q, e, changed, got)
	}
	if !same(q, before) || queue.Check(got) != api.OK {
		t.Fatalf("Do of %v, %v: what was handed in became %v, and %v may not be", before, e, q, got)
	}
	return got, gotAnswer
}

// die: numbers that look drawn, the same each time.
type die uint64

func (d *die) n(most int) int {
	*d = *d*6364136223846793005 + 1442695040888963407
	return int(uint64(*d>>33) % uint64(most))
}

// event that may be, near to what the queue has.
func (d *die) event(q api.Queue) api.Event {
	switch d.n(9) {
	case 0, 1, 2:
		p := d.n(api.MaxProducers)
		return publish(p, min(max(0, q.Windows[p].Top-10)+d.n(13), api.MaxId), d.n(100))
	case 3, 4, 5:
		return receive
	case 6, 7:
		if len(q.Leases) > 0 && d.n(4) > 0 {
			h := q.Leases[d.n(len(q.Leases))].Handle
			return ack(h.Epoch, h.No)
		}
		return ack(min(max(0, q.Epoch-1)+d.n(3), api.MaxEpoch), min(max(0, q.Given-5)+d.n(7), api.MaxId))
	}
	if d.n(3) == 0 {
		return end
	}
	return receive
}

// P4.3 to P4.6: drawn events, from ordinary queues and from such at the edges on, against the model.
func TestModel(t *testing.T) {
	starts := some()
	starts["all at its greatest, almost"] = api.Queue{Epoch: api.MaxEpoch - 3, Next: api.MaxId - 20, Given: api.MaxId - 9}
	starts["MaxReady, almost"] = api.Queue{Next: 600, Given: 9, Ready: row(90, api.MaxReady-12), Leases: leases(0, [2]int{1, 89}, [2]int{5, 3}, [2]int{8, 44})}
	for what, start := range starts {
		d := die(len(what))
		for range 20 {
			q := start
			for range 60 {
				q, _ = agrees(t, q, d.event(q))
			}
		}
	}
}

// What comes of it: no message that was published is lost ahead of its ack, none is handed out behind it.
func TestNothingLost(t *testing.T) {
	d := die(4)
	for range 40 {
		var q api.Queue
		published, acked, held := map[int]int{}, map[int]int{}, map[api.Handle]int{}
		body := 0
		for range 200 {
			e := d.event(q)
			if e.Kind == api.Publish {
				body++
				e.Body = body // each one its own, so that it tells which message it is
			}
			next, a, changed, refused := queue.Do(q, e)
			if refused != api.OK {
				t.Fatal(e, refused)
			}
			switch {
			case e.Kind == api.Publish && changed:
				published[body] = 1
			case e.Kind == api.Receive && changed:
				if acked[a.Body] == 1 || published[a.Body] == 0 {
					t.Fatalf("handed out: %v", a)
				}
				held[a.Handle] = a.Body
			case e.Kind == api.Ack && changed:
				acked[held[e.Handle]] = 1
			}
			q = next
			if len(q.Ready)+len(q.Leases) != len(published)-len(acked) {
				t.Fatalf("behind %v: %v: %d published, %d acked", e, q, len(published), len(acked))
			}
		}
		q = behind(t, q, end)
		for len(q.Ready) > 0 {
			var a api.Answer
			q, a, _, _ = queue.Do(q, receive)
			acked[a.Body]++
		}
		for b := range published {
			if acked[b] != 1 {
				t.Fatalf("the message %d: handed out or acked %d times", b, acked[b])
			}
		}
	}
}

// Whatever events there are, one behind the other, each one written as four bytes. (P4.1 to P4.6)
func FuzzDo(f *testing.F) {
	f.Add(uint8(0), []byte("\x01\x00\x00\x05\x02\x00\x00\x00\x04\x00\x00\x00\x03\x00\x00\x00"))
	f.Add(uint8(1), []byte("\x02\x00\x00\x00\x02\x00\x00\x00\x04\x00\x00\x00\x04\x00\x00\x00"))
	f.Add(uint8(2), []byte("\x01\x00\x00\x00\x01\x00\x01\x00\x02\x00\x00\x00\x01\x00\x02\x00"))
	f.Fuzz(func(t *testing.T, start uint8, b []byte) {
		q := []api.Queue{
			{},
			{Epoch: api.MaxEpoch - 1, Next: api.MaxId - 2, Given: api.MaxId - 2, Ready: ready(4, 7)},
			{Next: 600, Given: 2, Ready: row(90, api.MaxReady-2), Leases: leases(0, [2]int{0, 3})},
			{Next: 9, Given: 9, Ready: ready(2, 5), Leases: leases(0, [2]int{1, 7}, [2]int{2, 0}, [2]int{8, 3})},
		}[start%4]
		for ; len(b) >= 4; b = b[4:] {
			var e api.Event
			switch b[0] % 4 {
			case 0:
				e = end
			case 1:
				e = publish(int(b[1])%api.MaxProducers, int(b[2]), int(b[3]))
			case 2:
				e = receive
			case 3:
				e = ack(min(max(0, q.Epoch-1)+int(b[1])%3, api.MaxEpoch), min(max(0, q.Given-int(b[2])), api.MaxId))
			}
			q, _ = agrees(t, q, e)
		}
	})
}

// A queue may be, or it may not: Check, held against the words one by one. (P4.1)
func FuzzCheck(f *testing.F) {
	f.Add(0, 0, 0, []byte{})
	f.Add(3, 9, 5, []byte{0, 2, 0, 0, 0, 5, 0, 0, 1, 4, 3, 1})
	f.Add(-1, math.MinInt, math.MaxInt, []byte{1, 1, 1, 1})
	f.Fuzz(func(t *testing.T, epoch, next, given int, b []byte) {
		q := api.Queue{Epoch: epoch, Next: next, Given: given}
		for ; len(b) >= 4; b = b[4:] {
			m := api.Message{No: int(int8(b[1]))}
			if b[0]%2 == 0 {
				q.Ready = append(q.Ready, m)
			} else {
				q.Leases = append(q.Leases, api.Lease{Handle: api.Handle{Epoch: int(b[2]), No: int(int8(b[3]))}, Message: m})
			}
		}
		may := epoch >= 0 && epoch <= 1<<20 && next >= 0 && next <= 1<<30 && given >= 0 && given <= 1<<30 && len(q.Ready)+len(q.Leases) <= 500
		times := map[int]int{}
		for i, m := range q.Ready {
			times[m.No]++
			may = may && m.No >= 0 && m.No < next && times[m.No] == 1 && (i == 0 || q.Ready[i-1].No < m.No)
		}
		for i, l := range q.Leases {
			times[l.Message.No]++
			may = may && l.Message.No >= 0 && l.Message.No < next && times[l.Message.No] == 1 && (i == 0 || q.Leases[i-1].Handle.No < l.Handle.No)
			may = may && l.Handle.Epoch == epoch && l.Handle.No >= 0 && l.Handle.No < given
		}
		want := api.OK
		if !may {
			want = api.ErrState
		}
		if got := queue.Check(q); got != want {
			t.Errorf("Check of %v: %v, want %v", q, got, want)
		}
	})
}
