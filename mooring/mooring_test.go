package mooring_test

import (
	"fmt"
	"math"
	"slices"
	"testing"

	"berthshift/api"
	"berthshift/berth"
	"berthshift/mooring"
)

func publish(producer, id, body int) api.Event {
	return api.Event{Kind: api.Publish, Producer: producer, Id: id, Body: body}
}

func ack(epoch, no int) api.Event {
	return api.Event{Kind: api.Ack, Handle: api.Handle{Epoch: epoch, No: no}}
}

var (
	receive = api.Event{Kind: api.Receive}
	end     = api.Event{Kind: api.Break}
)

// seven events: a history.
func seven() []api.Event {
	return []api.Event{publish(0, 0, 5), receive, ack(0, 0), publish(0, 1, 6), publish(2, 9, 7), end, receive}
}

// nearly: a history of n events, with something to receive and to ack behind them.
func nearly(n int) []api.Event {
	return slices.Concat(seven()[:5], slices.Repeat([]api.Event{end}, n-6), []api.Event{receive})
}

// same: are two berths the same? A list without elements may be nil or not.
func same(a, b api.Berth) bool {
	return a.Role == b.Role && a.Epoch == b.Epoch && a.From == b.From && a.To == b.To && a.Rounds == b.Rounds && slices.Equal(a.Events, b.Events)
}

// brief: a berth as a text, without most of its events.
func brief(b api.Berth) string {
	n := len(b.Events)
	b.Events = b.Events[:min(n, 9)]
	return fmt.Sprint(b, " of ", n, " events")
}

// of a berth that may be.
func of(t *testing.T, b api.Berth) mooring.Mooring {
	t.Helper()
	m, e := mooring.Of(b)
	if e != api.OK || !same(m.Moored(), b) {
		t.Fatalf("Of %s: %s, %v", brief(b), brief(m.Moored()), e)
	}
	return m
}

// call of a mooring and of its berth.
type call struct {
	name            string
	e               api.Event
	epoch, node, at int
	l               []api.Event
	last            bool
}

// answer to a call, whoever gives it.
type answer struct {
	b    api.Berth
	a    api.Answer
	l    []api.Event
	flag bool
	e    api.Errno
}

func (x answer) same(y answer) bool {
	return same(x.b, y.b) && x.a == y.a && slices.Equal(x.l, y.l) && x.flag == y.flag && x.e == y.e
}

// ofBerth: what package berth answers.
func (c call) ofBerth(b api.Berth) (x answer) {
	switch c.name {
	case "Serve":
		x.b, x.a, x.flag, x.e = berth.Serve(b, c.e)
	case "Make":
		x.b, x.e = berth.Make(b, c.epoch)
	case "Go":
		x.b, x.e = berth.Go(b, c.node)
	case "Caught":
		x.b, x.e = berth.Caught(b, c.at)
	case "Part":
		x.l, x.flag, x.e = berth.Part(b, c.at)
	case "Begin":
		x.b, x.e = berth.Begin(b, c.epoch, c.node)
	case "Import":
		x.b, x.e = berth.Import(b, c.epoch, c.at, c.l, c.last)
	case "Forget":
		x.b, x.e = berth.Forget(b, c.epoch)
	case "Wake":
		x.b, x.e = berth.Wake(b)
	}
	return x
}

// ofMooring: what this package answers, and the mooring behind it.
func (c call) ofMooring(m mooring.Mooring) (next mooring.Mooring, x answer) {
	switch c.name {
	case "Serve":
		next, x.a, x.flag, x.e = mooring.Serve(m, c.e)
	case "Make":
		next, x.e = mooring.Make(m, c.epoch)
	case "Go":
		next, x.e = mooring.Go(m, c.node)
	case "Caught":
		next, x.e = mooring.Caught(m, c.at)
	case "Part":
		x.l, x.flag, x.e = mooring.Part(m, c.at)
		return m, x
	case "Begin":
		next, x.e = mooring.Begin(m, c.epoch, c.node)
	case "Import":
		next, x.e = mooring.Import(m, c.epoch, c.at, c.l, c.last)
	case "Forget":
		next, x.e = mooring.Forget(m, c.epoch)
	case "Wake":
		next, x.e = mooring.Wake(m)
	}
	x.b = next.Moored()
	return next, x
}

// agrees: does a mooring answer what its berth does, and stay as it was? It answers the mooring behind the call, or the old one if the call is refused.
func agrees(t *testing.T, m mooring.Mooring, c call) mooring.Mooring {
	t.Helper()
	b := m.Moored()
	coming := slices.Clone(c.l)
	want := c.ofBerth(b)
	next, got := c.ofMooring(m)
	if !got.same(want) {
		t.Fatalf("%v of %s: %v, want %v", c, brief(b), got, want)
	}
	scribble(got.b.Events)
	scribble(got.l)
	if !same(m.Moored(), b) || !slices.Equal(coming, c.l) {
		t.Fatalf("%v of %s: it became %s", c, brief(b), brief(m.Moored()))
	}
	if got.e != api.OK {
		return m
	}
	return next
}

// scribble over a list, its spare room too.
func scribble(l []api.Event) {
	l = l[:cap(l)]
	for i := range l {
		l[i] = api.Event{Kind: -9, Body: -9}
	}
}

// roles: a berth of each role with these events, but for one that may have none.
func roles(events []api.Event) []api.Berth {
	return []api.Berth{
		{Epoch: 3},
		{Role: api.Active, Epoch: 3, Events: events},
		{Role: api.Draining, Epoch: 3, To: 2, Rounds: 1, Events: events},
		{Role: api.Draining, Epoch: 3, To: 2, Rounds: api.MaxRounds, Events: events},
		{Role: api.Sealed, Epoch: 3, To: 2, Events: events},
		{Role: api.Importing, Epoch: 3, From: 2, Events: events},
		{Role: api.Active, Epoch: api.MaxEpoch, Events: events},
		{Role: api.Sealed, Epoch: api.MaxEpoch, Events: events},
	}
}

// someCalls of a berth with so many events, at all edges.
func someCalls(events []api.Event) []call {
	n := len(events)
	l := []call{{name: "Wake"}}
	for _, e := range []api.Event{{}, publish(0, 2, 1), publish(0, 1, 1), publish(4, 0, 0), receive, ack(1, 0), ack(1, 5), ack(0, 0), end} {
		l = append(l, call{name: "Serve", e: e})
	}
	for _, i := range []int{math.MinInt, -1, 0, 1, 2, 4, 5, n - 4, n - 3, n - 2, n - 1, n, n + 1, math.MaxInt} {
		l = append(l, call{name: "Go", node: i}, call{name: "Caught", at: i}, call{name: "Part", at: i})
	}
	for _, epoch := range []int{math.MinInt, 0, 1, 2, 3, 4, api.MaxEpoch, api.MaxEpoch + 1, math.MaxInt} {
		l = append(l, call{name: "Make", epoch: epoch}, call{name: "Forget", epoch: epoch})
		for _, from := range []int{-1, 0, 2, 4, 5} {
			l = append(l, call{name: "Begin", epoch: epoch, node: from})
		}
	}
	for _, epoch := range []int{2, 3} {
		for _, at := range []int{-1, 0, n - 1, n, n + 1} {
			for _, come := range [][]api.Event{nil, {end}, {end, end}, {receive}, {{}}, events, events[min(1, n):], append(slices.Clone(events), end)} {
				l = append(l, call{name: "Import", epoch: epoch, at: at, l: come}, call{name: "Import", epoch: epoch, at: at, l: come, last: true})
			}
		}
	}
	return l
}

// Each call, at all edges, answers what berth's of the same name does.
func TestEdges(t *testing.T) {
	for _, events := range [][]api.Event{nil, {end}, seven()} {
		for _, b := range roles(events) {
			m := of(t, b)
			for _, c := range someCalls(events) {
				agrees(t, m, c)
			}
		}
	}
}

// So it does where there is little room for events, or none.
func TestFull(t *testing.T) {
	for n := api.MaxEvents - 3; n <= api.MaxEvents; n++ {
		for _, b := range roles(nearly(n)) {
			m := of(t, b)
			agrees(t, m, call{name: "Wake"})
			for _, e := range []api.Event{publish(0, 7, 1), receive, ack(n-6, 0), ack(0, 0), publish(0, 1, 6)} {
				agrees(t, m, call{name: "Serve", e: e})
			}
			for _, more := range [][]api.Event{nil, {end}, {end, end}, {end, end, end}} {
				agrees(t, m, call{name: "Import", epoch: 3, at: n, l: more})
				agrees(t, m, call{name: "Import", epoch: 3, at: n, l: more, last: true})
			}
		}
	}
}

// A berth that may not be has no mooring.
func TestMayNotBe(t *testing.T) {
	l := []api.Berth{{Role: 5}, {Role: -1}, {Epoch: -1}, {Events: []api.Event{end}}, {Role: api.Active}, {Role: api.Active, Epoch: 1, To: 1}}
	for _, b := range roles(nil)[1:] {
		for _, events := range [][]api.Event{{receive}, {end, {}}, append(seven(), ack(0, 0)), nearly(api.MaxEvents + 1)} {
			b.Events = events
			l = append(l, b)
		}
	}
	for _, b := range l {
		if m, e := mooring.Of(b); e != api.ErrState || !same(m.Moored(), api.Berth{}) {
			t.Errorf("Of %s: %s, %v", brief(b), brief(m.Moored()), e)
		}
	}
}

// The berth that a mooring is made of is not kept, nor what comes out.
func TestMemory(t *testing.T) {
	b := api.Berth{Role: api.Active, Epoch: 3, Events: seven()}
	m := of(t, b)
	scribble(b.Events)
	scribble(m.Moored().Events)
	if want := (api.Berth{Role: api.Active, Epoch: 3, Events: seven()}); !same(m.Moored(), want) {
		t.Errorf("it became %s", brief(m.Moored()))
	}
	one, _, _, _ := mooring.Serve(m, publish(3, 1, 1))
	two, _, _, _ := mooring.Serve(m, publish(3, 2, 2))
	if !slices.Equal(one.Moored().Events, append(seven(), publish(3, 1, 1))) || !slices.Equal(two.Moored().Events, append(seven(), publish(3, 2, 2))) {
		t.Errorf("two moorings that were made of one share memory: %s, %s", brief(one.Moored()), brief(two.Moored()))
	}
}

// die: numbers that look drawn, the same each time.
type die uint64

func (d *die) n(most int) int {
	*d = *d*6364136223846793005 + 1442695040888963407
	return int(uint64(*d>>33) % uint64(most))
}

func (d *die) event() api.Event {
	switch d.n(7) {
	case 0, 1, 2:
		return publish(d.n(5), d.n(12), d.n(9))
	case 3, 4:
		return receive
	case 5:
		return ack(d.n(4), d.n(3))
	}
	return end
}

// call that a mooring may well take.
func (d *die) call(m mooring.Mooring) call {
	have := d.n(len(m.Events) + 1)
	switch d.n(12) {
	case 0:
		return call{name: "Go", node: d.n(6)}
	case 1:
		return call{name: "Caught", at: have}
	case 2:
		return call{name: "Part", at: have}
	case 3:
		return call{name: "Begin", epoch: m.Epoch + d.n(3), node: d.n(3)}
	case 4:
		return call{name: "Forget", epoch: m.Epoch + d.n(3)}
	case 5:
		return call{name: "Wake"}
	case 6:
		return call{name: "Make", epoch: m.Epoch + d.n(3)}
	case 7, 8:
		l := append(slices.Clone(m.Events[have:]), d.event())
		return call{name: "Import", epoch: m.Epoch, at: have, l: l[:d.n(len(l)+1)], last: d.n(6) == 0}
	}
	return call{name: "Serve", e: d.event()}
}

// drawn: calls one behind the other; which roles were reached?
func drawn(t *testing.T, d *die, m mooring.Mooring) map[int]int {
	reached := map[int]int{}
	for range 150 {
		m = agrees(t, m, d.call(m))
		reached[m.Role]++
	}
	return reached
}

// Whatever is called, one call behind the other, a mooring answers what its berth does.
func TestDrawn(t *testing.T) {
	reached := map[int]int{}
	for seed := range 60 {
		d := die(seed)
		for role, n := range drawn(t, &d, mooring.Mooring{}) {
			reached[role] += n
		}
	}
	for role := range 5 {
		if reached[role] < 100 {
			t.Errorf("the role %d was reached %d times", role, reached[role])
		}
	}
}

// Whatever is called, one call behind the other: calls that are drawn by a seed.
func FuzzMooring(f *testing.F) {
	f.Add(uint64(1), 1, 1, 0, 0, 0)
	f.Add(uint64(2), 2, 3, 0, 2, 1)
	f.Add(uint64(3), 3, 3, 0, 4, 0)
	f.Add(uint64(4), 4, api.MaxEpoch, 4, 0, 0)
	f.Fuzz(func(t *testing.T, seed uint64, role, epoch, from, to, rounds int) {
		d := die(seed)
		if m, e := mooring.Of(api.Berth{Role: role, Epoch: epoch, From: from, To: to, Rounds: rounds}); e == api.OK {
			drawn(t, &d, m)
		}
	})
}
