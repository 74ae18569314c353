package rebuild_test

import (
	"fmt"
	"math"
	"slices"
	"testing"

	"berthshift/api"
	"berthshift/berth"
	"berthshift/history"
	"berthshift/pack"
	"berthshift/rebuild"
	"berthshift/tape"
)

func publish(producer, id, body int) api.Event {
	return api.Event{Kind: api.Publish, Producer: producer, Id: id, Body: body}
}

func ack(epoch, no int) api.Event {
	return api.Event{Kind: api.Ack, Handle: api.Handle{Epoch: epoch, No: no}}
}

var (
	receive = api.Event{Kind: api.Receive}
	end     = api.Event{Kind: api.Break}
)

// seven events: a history. Behind it the first message is gone, the second one leased, and the third one ready; the queue's Epoch is 1.
func seven() []api.Event {
	return []api.Event{publish(0, 0, 5), receive, ack(0, 0), publish(0, 1, 6), publish(2, 9, 7), end, receive}
}

// breaks: a history of n events, all of them Breaks.
func breaks(n int) []api.Event { return slices.Repeat([]api.Event{end}, n) }

// join: events, and others behind them, in new memory.
func join(l []api.Event, more ...api.Event) []api.Event { return slices.Concat(l, more) }

func nobody(epoch int) api.Berth { return api.Berth{Epoch: epoch} }

func active(epoch int, l ...api.Event) api.Berth {
	return api.Berth{Role: api.Active, Epoch: epoch, Events: l}
}

func draining(epoch, to, rounds int, l ...api.Event) api.Berth {
	return api.Berth{Role: api.Draining, Epoch: epoch, To: to, Rounds: rounds, Events: l}
}

func sealed(epoch, to int, l ...api.Event) api.Berth {
	return api.Berth{Role: api.Sealed, Epoch: epoch, To: to, Events: l}
}

func importing(epoch, from int, l ...api.Event) api.Berth {
	return api.Berth{Role: api.Importing, Epoch: epoch, From: from, Events: l}
}

func create(q, epoch int) api.Record { return api.Record{Kind: api.Create, Queue: q, Epoch: epoch} }

func told(q, epoch int, e api.Event) api.Record {
	return api.Record{Kind: api.History, Queue: q, Epoch: epoch, Event: e}
}

func seal(q, epoch, to int) api.Record {
	return api.Record{Kind: api.Seal, Queue: q, Epoch: epoch, Peer: to}
}

func begin(q, epoch, from int) api.Record {
	return api.Record{Kind: api.Begin, Queue: q, Epoch: epoch, Peer: from}
}

func comes(q, epoch int, e api.Event) api.Record {
	return api.Record{Kind: api.Import, Queue: q, Epoch: epoch, Event: e}
}

func activate(q, epoch int) api.Record {
	return api.Record{Kind: api.Activate, Queue: q, Epoch: epoch}
}

func forget(q, epoch int) api.Record { return api.Record{Kind: api.Forget, Queue: q, Epoch: epoch} }

// each event as a record of its own.
func each(l []api.Event, as func(q, epoch int, e api.Event) api.Record, q, epoch int) []api.Record {
	var records []api.Record
	for _, e := range l {
		records = append(records, as(q, epoch, e))
	}
	return records
}

// same: are two berths the same? A list without elements may be nil or not.
func same(a, b api.Berth) bool {
	return a.Role == b.Role && a.Epoch == b.Epoch && a.From == b.From && a.To == b.To && a.Rounds == b.Rounds && slices.Equal(a.Events, b.Events)
}

// short: a berth as a text, without most of its events.
func short(b api.Berth) string {
	n := len(b.Events)
	b.Events = b.Events[:min(n, 9)]
	return fmt.Sprint(b, " of ", n, " events")
}

// gives: does Apply answer this berth, without an error, and may it be?
func gives(t *testing.T, b api.Berth, r api.Record, want api.Berth) {
	t.Helper()
	got, e := rebuild.Apply(b, r)
	if !same(got, want) || e != api.OK {
		t.Errorf("Apply of %s, %v: %s, %v; want %s", short(b), r, short(got), e, short(want))
	}
	if berth.Check(got) != api.OK {
		t.Errorf("Apply of %s, %v: %s, which may not be", short(b), r, short(got))
	}
}

// refuses: does Apply answer nothing but this error?
func refuses(t *testing.T, b api.Berth, r api.Record, want api.Errno) {
	t.Helper()
	if got, e := rebuild.Apply(b, r); !same(got, api.Berth{}) || e != want {
		t.Errorf("Apply of %s, %v: %s, %v; want nothing, %v", short(b), r, short(got), e, want)
	}
}

// P8.1: a berth that may not be is ErrState, ahead of all that may be wrong with the record, and of all that would be right.
func TestMayNotBe(t *testing.T) {
	records := []api.Record{{}, {Kind: 8}, {Kind: api.Create, Queue: 4}, create(0, 4), told(0, 3, end), told(0, 3, api.Event{}), seal(0, 3, 2), begin(0, 4, 2), comes(0, 3, end), activate(0, 3), forget(0, 3)}
	for _, b := range []api.Berth{
		{Role: -1}, {Role: 5, Epoch: 3}, {Epoch: -1}, {Epoch: api.MaxEpoch + 1}, {Epoch: 3, Events: []api.Event{end}}, {Epoch: 3, From: 1}, {Epoch: 3, To: 1}, {Epoch: 3, Rounds: 1},
		active(0), active(-3), active(api.MaxEpoch + 1), active(3, receive), active(3, api.Event{}), active(3, breaks(api.MaxEvents+1)...), active(3, join(seven(), ack(0, 0))...),
		{Role: api.Active, Epoch: 3, From: 1}, {Role: api.Active, Epoch: 3, To: 1}, {Role: api.Active, Epoch: 3, Rounds: 1},
		draining(3, 5, 0), draining(3, -1, 0), draining(3, 1, 5), draining(0, 1, 1), {Role: api.Draining, Epoch: 3, From: 1},
		sealed(3, 5), sealed(3, -1), sealed(0, 1), sealed(3, 2, receive), {Role: api.Sealed, Epoch: 3, From: 2}, {Role: api.Sealed, Epoch: 3, Rounds: 2},
		importing(3, 5), importing(3, -1), importing(0, 1), importing(3, 2, publish(0, 0, 1), publish(0, 0, 1)), importing(3, 2, breaks(api.MaxEvents+1)...), {Role: api.Importing, Epoch: 3, To: 1},
	} {
		for _, r := range records {
			refuses(t, b, r, api.ErrState)
		}
	}
}

// wrongRecords: such as may not stand on a tape, and what pack's Record says of them.
func wrongRecords() map[api.Record]api.Errno {
	return map[api.Record]api.Errno{
		{}: api.ErrForm, {Kind: -1, Epoch: 3}: api.ErrForm, {Kind: 8, Epoch: 3}: api.ErrForm, {Kind: math.MaxInt}: api.ErrForm, {Kind: math.MinInt}: api.ErrForm, {Kind: 1<<32 + 1, Epoch: 4}: api.ErrForm,
		create(-1, 4): api.ErrRange, create(4, 4): api.ErrRange, create(math.MinInt, 4): api.ErrRange, create(1<<32, 4): api.ErrRange, create(math.MaxInt, 4): api.ErrRange,
		create(0, -1): api.ErrRange, create(0, api.MaxEpoch+1): api.ErrRange, told(0, math.MinInt, end): api.ErrRange, told(4, 3, end): api.ErrRange,
		seal(0, 3, -1): api.ErrRange, seal(0, 3, 5): api.ErrRange, seal(4, 3, 1): api.ErrRange, begin(0, 4, 5): api.ErrRange, begin(0, 4, -1): api.ErrRange, begin(0, api.MaxEpoch+1, 1): api.ErrRange,
		comes(0, 1<<32+3, end): api.ErrRange, activate(-1, 3): api.ErrRange, forget(0, math.MaxInt): api.ErrRange, {Kind: api.Forget, Epoch: 3, Peer: -1}: api.ErrRange,
		told(0, 3, api.Event{}): api.ErrForm, told(0, 3, api.Event{Kind: 5}): api.ErrForm, told(0, 3, api.Event{Kind: api.Break, Id: 1}): api.ErrForm,
		told(0, 3, publish(4, 0, 0)): api.ErrRange, told(0, 3, publish(0, -1, 0)): api.ErrRange, told(0, 3, publish(0, 5, api.MaxBody+1)): api.ErrRange, told(0, 3, ack(api.MaxEpoch+1, 0)): api.ErrRange,
		comes(0, 3, api.Event{Kind: -1}): api.ErrForm, comes(0, 3, publish(-1, 5, 0)): api.ErrRange, comes(0, 3, ack(0, api.MaxId+1)): api.ErrRange, comes(0, 3, api.Event{Kind: api.Receive, Body: 1}): api.ErrForm,
		{Kind: api.Create, Epoch: 4, Event: end}: api.ErrForm, {Kind: api.Seal, Epoch: 3, Event: api.Event{Body: 1}}: api.ErrForm, {Kind: api.Begin, Epoch: 4, Event: receive}: api.ErrForm,
		{Kind: api.Activate, Epoch: 3, Event: end}: api.ErrForm, {Kind: api.Forget, Epoch: 3, Event: api.Event{Handle: api.Handle{No: 1}}}: api.ErrForm,
	}
}

// P8.1: what may not stand on a tape is refused with pack's error, whatever the berth is, also where it would not fit.
func TestMayNotStand(t *testing.T) {
	for r, want := range wrongRecords() {
		if e := pack.Record(r); e != want {
			t.Fatalf("pack says %v of %v, want %v", e, r, want)
		}
		for _, b := range []api.Berth{nobody(0), nobody(3), active(3), active(3, seven()...), draining(3, 2, 1), sealed(3, 2, seven()...), importing(3, 2, seven()...), importing(3, 0)} {
			refuses(t, b, r, want)
		}
	}
}

// P8.1: a Create fits a Nobody of a lower Epoch.
func TestCreate(t *testing.T) {
	for _, c := range []struct{ had, epoch int }{{0, 1}, {0, 2}, {0, api.MaxEpoch}, {1, 2}, {1, 3}, {7, 8}, {api.MaxEpoch - 1, api.MaxEpoch}} {
		for q := range api.MaxQueues {
			gives(t, nobody(c.had), create(q, c.epoch), active(c.epoch))
		}
	}
	for _, c := range []struct {
		b     api.Berth
		epoch int
	}{
		{nobody(0), 0}, {nobody(1), 0}, {nobody(1), 1}, {nobody(7), 7}, {nobody(7), 6}, {nobody(api.MaxEpoch), api.MaxEpoch}, {active(3), 4}, {active(3), 3},
		{active(3, seven()...), 4}, {draining(3, 1, 0), 4}, {sealed(3, 1), 4}, {importing(3, 1), 4}, {importing(3, 0), 3}, {importing(3, 0), 4},
	} {
		refuses(t, c.b, create(0, c.epoch), api.ErrForm)
	}
}

// P8.1: a History fits an Active berth of its Epoch, and an Import an Importing one, if the events are a history with it.
func TestEvents(t *testing.T) {
	for _, epoch := range []int{1, 3, api.MaxEpoch} {
		for _, c := range []struct {
			l []api.Event
			e api.Event
		}{
			{nil, end}, {nil, publish(3, api.MaxId, api.MaxBody)}, {seven(), receive}, {seven(), ack(1, 0)}, {seven(), publish(0, 2, 8)}, {seven(), end},
			{breaks(api.MaxEvents - 2), end}, {breaks(api.MaxEvents - 1), end}, {breaks(api.MaxEvents - 1), publish(0, 0, 0)}, // the last place, too
		} {
			gives(t, active(epoch, c.l...), told(1, epoch, c.e), active(epoch, join(c.l, c.e)...))
			gives(t, importing(epoch, 4, c.l...), comes(1, epoch, c.e), importing(epoch, 4, join(c.l, c.e)...))
		}
		for _, c := range []struct {
			l []api.Event
			e api.Event
		}{
			{nil, receive}, {nil, ack(0, 0)}, {seven(), ack(0, 0)}, {seven(), ack(1, 1)}, {seven(), publish(0, 1, 6)}, {seven(), publish(2, 0, 0)}, {join(seven(), receive), receive},
			{breaks(api.MaxEvents), end}, {breaks(api.MaxEvents), publish(0, 0, 0)},
		} {
			refuses(t, active(epoch, c.l...), told(1, epoch, c.e), api.ErrForm)
			refuses(t, importing(epoch, 4, c.l...), comes(1, epoch, c.e), api.ErrForm)
		}
	}
	for _, b := range []api.Berth{nobody(3), draining(3, 1, 0), sealed(3, 1), importing(3, 1), importing(3, 0), active(2), active(4), nobody(0)} {
		refuses(t, b, told(0, 3, end), api.ErrForm)
	}
	for _, b := range []api.Berth{nobody(3), draining(3, 1, 0), sealed(3, 1), active(3), importing(2, 1), importing(4, 1), nobody(0)} {
		refuses(t, b, comes(0, 3, end), api.ErrForm)
	}
}

// P8.1: a Seal fits an Active berth of its Epoch, at whatever node, the greatest Epoch, too.
func TestSeal(t *testing.T) {
	for _, epoch := range []int{1, 3, api.MaxEpoch} {
		for node := range api.MaxNodes {
			for _, l := range [][]api.Event{nil, seven(), breaks(api.MaxEvents)} {
				gives(t, active(epoch, l...), seal(3, epoch, node), sealed(epoch, node, l...))
			}
		}
	}
	for _, b := range []api.Berth{nobody(3), draining(3, 1, 0), draining(3, 0, 4), sealed(3, 1), sealed(3, 0), importing(3, 1), active(2), active(4), nobody(0)} {
		refuses(t, b, seal(0, 3, 1), api.ErrForm)
		refuses(t, b, seal(0, 3, 0), api.ErrForm)
	}
	refuses(t, active(3), seal(0, 0, 1), api.ErrForm)
}

// P8.1: a Begin does what berth's Begin does, from whatever node, and fits where that does not refuse.
func TestBegin(t *testing.T) {
	for node := range api.MaxNodes {
		for _, b := range []api.Berth{nobody(0), nobody(3), importing(3, 1), importing(3, node, seven()...), importing(1, 4, breaks(api.MaxEvents)...)} {
			gives(t, b, begin(2, 4, node), importing(4, node))
			gives(t, b, begin(2, api.MaxEpoch, node), importing(api.MaxEpoch, node))
		}
		for _, l := range [][]api.Event{nil, seven(), breaks(api.MaxEvents)} { // just that already
			gives(t, importing(4, node, l...), begin(2, 4, node), importing(4, node, l...))
		}
		for _, b := range []api.Berth{nobody(4), nobody(5), importing(4, (node+1)%5), importing(4, (node+1)%5, seven()...), importing(5, node), active(3), active(4), active(3, seven()...), draining(3, node, 0), draining(4, 0, 0), sealed(3, node), sealed(4, 0, seven()...)} {
			refuses(t, b, begin(2, 4, node), api.ErrForm)
		}
		refuses(t, nobody(0), begin(2, 0, node), api.ErrForm) // berth's Begin says ErrRange
	}
}

// P8.1: an Activate fits an Importing berth of its Epoch that has room for the Break.
func TestActivate(t *testing.T) {
	for _, epoch := range []int{1, 3, api.MaxEpoch} {
		for node := range api.MaxNodes {
			for _, l := range [][]api.Event{nil, {end}, seven(), breaks(api.MaxEvents - 1)} {
				gives(t, importing(epoch, node, l...), activate(0, epoch), active(epoch, join(l, end)...))
			}
			refuses(t, importing(epoch, node, breaks(api.MaxEvents)...), activate(0, epoch), api.ErrForm)
		}
	}
	for _, b := range []api.Berth{nobody(3), nobody(0), active(3), active(3, seven()...), draining(3, 1, 0), sealed(3, 1), importing(2, 1), importing(4, 1, seven()...)} {
		refuses(t, b, activate(0, 3), api.ErrForm)
	}
}

// P8.1: a Forget fits a Sealed berth of its Epoch, which is kept.
func TestForget(t *testing.T) {
	for _, epoch := range []int{1, 3, api.MaxEpoch} {
		for node := range api.MaxNodes {
			for _, l := range [][]api.Event{nil, seven(), breaks(api.MaxEvents)} {
				gives(t, sealed(epoch, node, l...), forget(1, epoch), nobody(epoch))
			}
		}
	}
	for _, b := range []api.Berth{nobody(3), nobody(0), active(3), draining(3, 1, 0), draining(3, 1, 4, seven()...), importing(3, 1), sealed(2, 1), sealed(4, 1, seven()...)} {
		refuses(t, b, forget(0, 3), api.ErrForm)
	}
}

// P8.1: Peer is 0 but of a Seal and a Begin.
func TestPeer(t *testing.T) {
	for peer := 1; peer < api.MaxNodes; peer++ {
		for _, c := range []struct {
			b api.Berth
			r api.Record
		}{
			{nobody(2), create(0, 3)}, {active(3), told(0, 3, end)}, {importing(3, peer), comes(0, 3, end)}, {importing(3, peer), activate(0, 3)}, {sealed(3, peer), forget(0, 3)},
		} {
			if _, e := rebuild.Apply(c.b, c.r); e != api.OK {
				t.Errorf("Apply of %s, %v: %v", short(c.b), c.r, e)
			}
			c.r.Peer = peer
			refuses(t, c.b, c.r, api.ErrForm)
			if _, place, e := rebuild.All([]api.Record{c.r}); place != 0 || e != api.ErrForm {
				t.Errorf("All of %v: %d, %v", c.r, place, e)
			}
		}
	}
}

// makes: does All answer these berths, the place 0, and no error?
func makes(t *testing.T, l []api.Record, want ...api.Berth) {
	t.Helper()
	for len(want) < api.MaxQueues {
		want = append(want, nobody(0))
	}
	got, place, e := rebuild.All(l)
	if !slices.EqualFunc(got, want, same) || place != 0 || e != api.OK {
		t.Errorf("All of %d records, %v ..: %v, %d, %v; want %v", len(l), l[:min(len(l), 9)], got, place, e, want)
	}
}

// stops: does All answer this place and error alone?
func stops(t *testing.T, l []api.Record, place int, want api.Errno) {
	t.Helper()
	if got, at, e := rebuild.All(l); len(got) != 0 || at != place || e != want {
		t.Errorf("All of %d records, %v ..: %v, %d, %v; want %d, %v", len(l), l[:min(len(l), 9)], got, at, e, place, want)
	}
}

// P8.2: the berths that records make, each queue's one behind the other, whatever stands between them.
func TestAll(t *testing.T) {
	makes(t, nil)
	makes(t, []api.Record{})
	makes(t, []api.Record{create(0, 1)}, active(1))
	makes(t, []api.Record{create(3, 7)}, nobody(0), nobody(0), nobody(0), active(7))
	makes(t, []api.Record{create(1, 1), told(1, 1, end), seal(1, 1, 3), forget(1, 1)}, nobody(0), nobody(1))
	makes(t, []api.Record{create(1, 1), seal(1, 1, 3), forget(1, 1), create(1, 2), told(1, 2, publish(0, 0, 1))}, nobody(0), active(2, publish(0, 0, 1)))
	makes(t, []api.Record{
		create(0, 1), begin(2, 2, 4), told(0, 1, publish(0, 0, 5)), comes(2, 2, publish(0, 0, 6)), create(1, 1), told(0, 1, receive), comes(2, 2, receive), begin(3, 9, 0), activate(2, 2),
		told(2, 2, receive), seal(0, 1, 0), told(2, 2, ack(1, 0)), begin(3, 9, 0), comes(3, 9, end), begin(3, 9, 0), told(1, 1, end),
	}, sealed(1, 0, publish(0, 0, 5), receive), active(1, end), active(2, publish(0, 0, 6), receive, end, receive, ack(1, 0)), importing(9, 0, end))
	makes(t, []api.Record{begin(0, 2, 1), comes(0, 2, end), begin(0, 3, 1), comes(0, 3, publish(1, 1, 1)), begin(0, 3, 1), activate(0, 3)}, active(3, publish(1, 1, 1), end))
	makes(t, []api.Record{begin(0, 2, 1), activate(0, 2), seal(0, 2, 1), forget(0, 2), begin(0, 4, 1), comes(0, 4, end)}, importing(4, 1, end))
}

// P8.2: the first record that is refused tells the error, and its place.
func TestFirst(t *testing.T) {
	for _, c := range []struct {
		l     []api.Record
		place int
		want  api.Errno
	}{
		{[]api.Record{{}}, 0, api.ErrForm},
		{[]api.Record{create(4, 1)}, 0, api.ErrRange},
		{[]api.Record{create(0, 1), create(-1, 1), {}}, 1, api.ErrRange},
		{[]api.Record{create(0, 1), {}, create(-1, 1)}, 1, api.ErrForm},
		{[]api.Record{create(0, 1), forget(0, 1), create(4, 1)}, 1, api.ErrForm},
		{[]api.Record{create(0, 1), create(1, 1), create(0, 2)}, 2, api.ErrForm},
		{[]api.Record{create(0, 1), told(1, 1, end)}, 1, api.ErrForm},
		{[]api.Record{create(0, 1), told(0, 1, end), told(0, 1, publish(0, 0, -1))}, 2, api.ErrRange},
		{[]api.Record{create(0, 1), seal(0, 1, 2), forget(0, 1), begin(0, 1, 2)}, 3, api.ErrForm}, // late: it was here at that epoch
		// an event that changes nothing is told as the first one, whatever comes of it, and whatever is wrong behind it
		{[]api.Record{create(0, 1), told(0, 1, receive)}, 1, api.ErrForm},
		{[]api.Record{create(0, 1), told(0, 1, receive), told(0, 1, end)}, 1, api.ErrForm},
		{[]api.Record{create(0, 1), told(0, 1, receive), create(9, 1)}, 1, api.ErrForm},
		{[]api.Record{create(0, 1), told(0, 1, receive), seal(0, 1, 1), forget(0, 1)}, 1, api.ErrForm},
		{[]api.Record{create(0, 1), told(0, 1, receive), seal(0, 1, 1), forget(0, 1), create(0, 2), create(9, 2)}, 1, api.ErrForm},
		{[]api.Record{begin(0, 1, 1), comes(0, 1, receive), begin(0, 2, 1), create(9, 1)}, 1, api.ErrForm},
		{[]api.Record{begin(0, 1, 1), comes(0, 1, receive), begin(0, 2, 1), comes(0, 2, end)}, 1, api.ErrForm},
		{[]api.Record{begin(0, 1, 1), comes(0, 1, receive), begin(0, 1, 1), activate(0, 1)}, 1, api.ErrForm},
		{[]api.Record{begin(0, 1, 1), comes(0, 1, end), comes(0, 1, receive), activate(0, 1), seal(0, 1, 0)}, 2, api.ErrForm},
		// two queues
		{[]api.Record{create(0, 1), create(1, 1), told(1, 1, receive), told(0, 1, receive), create(9, 1)}, 2, api.ErrForm},
		{[]api.Record{create(0, 1), create(1, 1), told(0, 1, receive), told(1, 1, receive), seal(1, 1, 1), forget(1, 1)}, 2, api.ErrForm},
		{[]api.Record{create(0, 1), create(3, 1), told(3, 1, receive), told(0, 1, receive), seal(0, 1, 1), forget(0, 1)}, 2, api.ErrForm},
	} {
		stops(t, c.l, c.place, c.want)
		if made, place, e := rebuild.All(c.l[:c.place]); len(made) != api.MaxQueues || place != 0 || e != api.OK { // up to there all is well
			t.Errorf("All of %v: %v, %d, %v", c.l[:c.place], made, place, e)
		}
	}
	for r, want := range wrongRecords() {
		stops(t, []api.Record{create(0, 3), told(0, 3, end), r, create(9, 9)}, 2, want)
	}
}

// filled: a history that has as many events as may be, and, most of the time, as many messages.
func filled() []api.Event {
	var l []api.Event
	for i := range api.MaxReady {
		l = append(l, publish(0, i, i))
	}
	for i := 0; len(l) < api.MaxEvents; i++ {
		l = append(l, receive, ack(0, i), publish(1, i, i))
	}
	return l[:api.MaxEvents]
}

// P8.2: as many events as may be, at all queues, and one more; it takes no time that one would wait for.
func TestMany(t *testing.T) {
	l := []api.Record{create(0, 1), create(1, 1), begin(2, 1, 3), begin(3, 1, 3)}
	for _, e := range filled() {
		l = append(l, told(0, 1, e), told(1, 1, e), comes(2, 1, e), comes(3, 1, e), begin(2, 1, 3))
	}
	want := []api.Berth{active(1, filled()...), active(1, filled()...), importing(1, 3, filled()...), importing(1, 3, filled()...)}
	makes(t, l, want...)
	for _, r := range []api.Record{told(1, 1, end), comes(2, 1, end), activate(3, 1)} {
		stops(t, append(slices.Clip(l), r, create(0, 2), begin(2, 2, 2)), len(l), api.ErrForm)
	}
	l = slices.Concat(l, []api.Record{seal(0, 1, 4), begin(2, 1, 3), begin(3, 2, 2)})
	want[0].Role, want[0].To, want[3] = api.Sealed, 4, importing(2, 2)
	makes(t, l, want...)
}

// A list of many records that have no events is gone through, too.
func TestLong(t *testing.T) {
	var l []api.Record
	for i := range 30000 {
		l = append(l, create(0, i+1), seal(0, i+1, 1), forget(0, i+1), begin(3, i+1, i%5), comes(3, i+1, end))
	}
	makes(t, l, nobody(30000), nobody(0), nobody(0), importing(30000, 29999%5, end))
	stops(t, append(l, forget(1, 1)), len(l), api.ErrForm)
	l[77777].Kind, l[77777].Event = api.Create, api.Event{}
	stops(t, l, 77777, api.ErrForm)
}

// fits, by the model: for each kind what the berth must be, and what it is then.
func fits(b api.Berth, r api.Record) (api.Berth, bool) {
	here := b.Epoch == r.Epoch && (r.Peer == 0 || r.Kind == 3)
	next, ok := api.Berth{}, false
	switch r.Kind {
	case 1:
		next, ok = active(r.Epoch), b.Role == 0 && r.Epoch > b.Epoch && r.Peer == 0
	case 2:
		next, ok = active(b.Epoch, join(b.Events, r.Event)...), b.Role == 1 && here
	case 3:
		next, ok = sealed(b.Epoch, r.Peer, b.Events...), b.Role == 1 && here
	case 4:
		started, e := berth.Begin(b, r.Epoch, r.Peer)
		next, ok = started, e == api.OK
	case 5:
		next, ok = importing(b.Epoch, b.From, join(b.Events, r.Event)...), b.Role == 4 && here
	case 6:
		next, ok = active(b.Epoch, join(b.Events, end)...), b.Role == 4 && here
	case 7:
		next, ok = nobody(b.Epoch), b.Role == 3 && here
	}
	_, e := history.Replay(next.Events)
	return next, ok && e == api.OK && b.Role != 2
}

// model of Apply.
func model(b api.Berth, r api.Record) (api.Berth, api.Errno) {
	next, ok := fits(b, r)
	switch {
	case berth.Check(b) != api.OK:
		return api.Berth{}, api.ErrState
	case pack.Record(r) != api.OK:
		return api.Berth{}, pack.Record(r)
	case !ok:
		return api.Berth{}, api.ErrForm
	}
	return next, api.OK
}

// spare: the events, with spare room behind them that nobody may write to, and all of it.
func spare(l []api.Event) (events, all []api.Event) {
	mark := api.Event{Kind: -7, Id: math.MinInt}
	all = append(slices.Clone(l), mark, mark, mark)
	return all[:len(l)], all
}

// scribble over a list, its spare room too.
func scribble(l []api.Event) {
	l = l[:cap(l)]
	for i := range l {
		l[i] = api.Event{Kind: -9, Body: -9}
	}
}

// agrees: does Apply answer what the model does, leave alone what is handed in, and share its answer with nobody? It answers the berth, and whether the record was taken.
func agrees(t *testing.T, b api.Berth, r api.Record) (api.Berth, bool) {
	t.Helper()
	want, e := model(b, r)
	events, all := spare(b.Events)
	kept := slices.Clone(all)
	b.Events = events
	first, e1 := rebuild.Apply(b, r)
	second, e2 := rebuild.Apply(b, r)
	if !same(first, want) || e1 != e {
		t.Errorf("Apply of %s, %v: %s, %v; want %s, %v", short(b), r, short(first), e1, short(want), e)
	}
	scribble(first.Events)
	if !slices.Equal(all, kept) {
		t.Errorf("Apply of %s, %v: what was handed in became %v", short(b), r, all)
	}
	if !same(second, want) || e2 != e {
		t.Errorf("Apply of %s, %v, once more: %s, %v; want %s, %v", short(b), r, short(second), e2, short(want), e)
	}
	return want, e == api.OK
}

// P8.1: records at all edges, of berths at all edges, against the model.
func TestEdges(t *testing.T) {
	var berths []api.Berth
	for _, epoch := range []int{-1, 0, 1, 3, 1<<20 - 1, 1 << 20, 1<<20 + 1} {
		for _, l := range [][]api.Event{nil, {end}, seven(), {receive}} {
			for _, node := range []int{-1, 0, 1, 4, 5} {
				berths = append(berths, draining(epoch, node, 0, l...), draining(epoch, node, 4, l...), sealed(epoch, node, l...), importing(epoch, node, l...))
			}
			berths = append(berths, active(epoch, l...), api.Berth{Epoch: epoch, Events: l})
		}
	}
	records := edges()
	for i, b := range berths {
		if berth.Check(b) == api.OK {
			for _, r := range records {
				agrees(t, b, r)
			}
			continue
		}
		for k := range 50 { // it is always ErrState
			agrees(t, b, records[(i*7+k*131)%len(records)])
		}
	}
}

// edges: records at all edges of all fields.
func edges() []api.Record {
	var l []api.Record
	for kind := range 9 {
		for _, q := range []int{-1, 3, 4} {
			for _, epoch := range []int{-1, 0, 1, 2, 3, 4, 1 << 20, 1<<20 + 1} {
				for _, peer := range []int{-1, 0, 1, 4, 5} {
					for _, e := range []api.Event{{}, end, ack(1, 0), publish(0, -1, 0)} {
						l = append(l, api.Record{Kind: kind, Queue: q, Epoch: epoch, Peer: peer, Event: e})
					}
				}
			}
		}
	}
	return l
}

// die: numbers that look drawn, the same each time.
type die uint64

func (d *die) n(most int) int {
	*d = *d*6364136223846793005 + 1442695040888963407
	return int(uint64(*d>>33) % uint64(most))
}

// event that looks drawn.
func (d *die) event() api.Event {
	switch d.n(20) {
	case 0, 1:
		return end
	case 2:
		return publish(d.n(6)-1, d.n(20), d.n(100))
	case 3, 4, 5, 6, 7:
		return ack(d.n(3), d.n(5))
	case 8, 9, 10, 11, 12:
		return receive
	}
	return publish(d.n(2), d.n(20), d.n(100))
}

// record that looks drawn, such as fits the berth in most of its fields, most of the time.
func (d *die) record(q int, b api.Berth) api.Record {
	kinds := [][]int{{1, 4}, {2, 2, 2, 2, 2, 2, 2, 3}, {2}, {7}, {5, 5, 5, 5, 5, 5, 6, 4}}[b.Role]
	r := api.Record{Kind: kinds[d.n(len(kinds))], Queue: q, Epoch: b.Epoch}
	if d.n(20) == 0 {
		r.Kind = d.n(9)
	}
	if r.Kind == 1 || r.Kind == 4 && d.n(2) == 0 {
		r.Epoch += d.n(3)
	}
	if r.Kind == 3 || r.Kind == 4 {
		r.Peer = d.n(api.MaxNodes)
	}
	if r.Kind == 4 && b.Role == 4 && d.n(2) == 0 {
		r.Peer = b.From
	}
	if r.Kind == 2 || r.Kind == 5 {
		r.Event = d.event()
	}
	switch d.n(40) {
	case 0:
		r.Epoch += d.n(3) - 1
	case 1:
		r.Peer = d.n(7) - 1
	case 2:
		r.Queue = d.n(6) - 1
	case 3:
		r.Event = d.event()
	}
	return r
}

// fold: the records, one behind the other, by the model of Apply.
func fold(l []api.Record) ([]api.Berth, int, api.Errno) {
	berths := make([]api.Berth, api.MaxQueues)
	for i, r := range l {
		if e := pack.Record(r); e != api.OK {
			return nil, i, e
		}
		b, e := model(berths[r.Queue], r)
		if e != api.OK {
			return nil, i, e
		}
		berths[r.Queue] = b
	}
	return berths, 0, api.OK
}

// agreesAll: does All answer what the fold does, leave alone what is handed in, and share its answer with nobody?
func agreesAll(t *testing.T, l []api.Record) {
	t.Helper()
	want, place, e := fold(l)
	mark := api.Record{Kind: -7, Epoch: math.MinInt}
	all := append(slices.Clone(l), mark, mark, mark)
	kept := slices.Clone(all)
	for range 2 { // the second answer shares nothing with the first one
		got, at, e1 := rebuild.All(all[:len(l)])
		if !slices.EqualFunc(got, want, same) || at != place || e1 != e {
			t.Errorf("All of %v: %v, %d, %v; want %v, %d, %v", l, got, at, e1, want, place, e)
		}
		for i := range got { // no two lists of one answer share any memory
			scribble(got[i].Events)
			for k := i + 1; k < len(got); k++ {
				if !same(got[k], want[k]) {
					t.Errorf("All of %v: the berths %d and %d share memory", l, i, k)
				}
			}
		}
		got = got[:cap(got)]
		clear(got)
		if !slices.Equal(all, kept) {
			t.Errorf("All of %v: what was handed in became %v", l, all)
		}
	}
}

// P8.1, P8.2: drawn records, one behind the other, against the models; all that is answered may be.
func TestModel(t *testing.T) {
	reached, refused := map[int]int{}, 0
	for seed := range 150 {
		d := die(seed)
		var l []api.Record
		berths := make([]api.Berth, api.MaxQueues)
		for range 60 {
			q := d.n(api.MaxQueues)
			r := d.record(q, berths[q])
			if next, ok := agrees(t, berths[q], r); ok && r.Queue == q {
				l = append(l, r)
				berths[q] = next
			} else {
				refused++
				agreesAll(t, append(slices.Clip(l), r, d.record(q, berths[q]), d.record(0, berths[0])))
			}
			if berth.Check(berths[q]) != api.OK {
				t.Fatalf("%s, which may not be", short(berths[q]))
			}
			reached[berths[q].Role]++
		}
		agreesAll(t, l)
	}
	for _, role := range []int{0, 1, 3, 4} {
		if reached[role] < 100 {
			t.Errorf("the role %d was reached %d times", role, reached[role])
		}
	}
	if refused < 500 {
		t.Errorf("%d records were refused", refused)
	}
}

// P8.2: records of which each is drawn for itself, a wrong one among them here and there: the first one that is refused is found wherever it is.
func TestWrongOnes(t *testing.T) {
	for seed := range 400 {
		d := die(seed)
		var l []api.Record
		berths := make([]api.Berth, api.MaxQueues)
		for range 40 {
			q := d.n(api.MaxQueues)
			r := d.record(q, berths[q])
			next, ok := fits(berths[q], r)
			if r.Queue == q && (ok && pack.Record(r) == api.OK || d.n(8) == 0) {
				l = append(l, r)
				if ok {
					berths[q] = next
				}
			}
		}
		agreesAll(t, l)
	}
}

// node: a berth, as its node has it, and the records that stand on its tape for that.
type node struct {
	b api.Berth
	t api.Tape
}

// write a record of the queue 2.
func (n *node) write(t *testing.T, r api.Record) {
	t.Helper()
	var e api.Errno
	if n.t, e = tape.Write(n.t, r); e != api.OK {
		t.Fatalf("%v is not written: %v", r, e)
	}
}

// rebuilt: the berth that the tape's records make.
func (n *node) rebuilt(t *testing.T) api.Berth {
	t.Helper()
	l, _, _ := tape.Read(n.t)
	berths, _, e := rebuild.All(l)
	if e != api.OK {
		t.Fatalf("%v: %v", l, e)
	}
	return berths[2]
}

// serve a client; what makes an event stands on the tape.
func (n *node) serve(t *testing.T, e api.Event) {
	t.Helper()
	b, _, more, refused := berth.Serve(n.b, e)
	if refused == api.OK {
		n.b = b
	}
	if more {
		n.write(t, told(2, b.Epoch, e))
	}
}

// What comes of it: a tape has one meaning: what nodes do with a queue, move by move, is made of their records again.
func TestMoves(t *testing.T) {
	for seed := range 40 {
		d := die(seed)
		var nodes [api.MaxNodes]node
		at := d.n(api.MaxNodes)
		nodes[at].b, _ = berth.Make(api.Berth{}, 1)
		nodes[at].write(t, create(2, 1))
		for epoch := 1; epoch < 8; epoch++ {
			for range d.n(20) {
				nodes[at].serve(t, d.event())
			}
			if d.n(4) == 0 { // a crash
				nodes[at].b, _ = berth.Wake(nodes[at].b)
				nodes[at].write(t, told(2, epoch, end))
			}
			to := (at + 1 + d.n(api.MaxNodes-1)) % api.MaxNodes
			move(t, &d, &nodes[at], &nodes[to], epoch, at, to)
			at = to
			for i := range nodes {
				if got := nodes[i].rebuilt(t); !same(got, nodes[i].b) {
					t.Fatalf("the node %d: %s, want %s", i, short(got), short(nodes[i].b))
				}
			}
		}
	}
}

// move a queue, as the berths say, while clients come.
func move(t *testing.T, d *die, source, target *node, epoch, at, to int) {
	t.Helper()
	source.b, _ = berth.Go(source.b, to)
	target.b, _ = berth.Begin(target.b, epoch+1, at)
	target.write(t, begin(2, epoch+1, at))
	for target.b.Role == api.Importing {
		source.serve(t, d.event())
		if b := source.rebuilt(t); b.Role != api.Active && b.Role != api.Sealed {
			t.Fatalf("on the tape of the source: %s", short(b))
		}
		had := len(target.b.Events)
		was := source.b.Role
		source.b, _ = berth.Caught(source.b, had)
		if was == api.Draining && source.b.Role == api.Sealed {
			source.write(t, seal(2, epoch, to))
		}
		l, last, _ := berth.Part(source.b, had)
		target.b, _ = berth.Import(target.b, epoch+1, had, l, last)
		for _, e := range l {
			target.write(t, comes(2, epoch+1, e))
		}
		if last {
			target.write(t, activate(2, epoch+1))
		}
	}
	source.b, _ = berth.Forget(source.b, epoch+1)
	source.write(t, forget(2, epoch))
}

// What comes of it: what is cut off behind is as if it had not been done.
func TestCutOff(t *testing.T) {
	l := slices.Concat([]api.Record{create(2, 1)}, each(seven(), told, 2, 1), []api.Record{seal(2, 1, 3), forget(2, 1), begin(2, 3, 3)}, each(seven(), comes, 2, 3), []api.Record{activate(2, 3), told(2, 3, receive)})
	n := node{}
	for _, r := range l {
		n.write(t, r)
	}
	var b api.Berth
	made := []api.Berth{b}
	for _, r := range l {
		b, _ = rebuild.Apply(b, r)
		made = append(made, b)
	}
	for keep := range len(n.t.Data) + 1 {
		torn, _ := tape.Crash(n.t, keep)
		torn, _ = tape.Repair(torn)
		whole, _, _ := tape.Read(torn)
		if got := (&node{t: torn}).rebuilt(t); !same(got, made[len(whole)]) {
			t.Fatalf("%d bytes: %s, want %s", keep, short(got), short(made[len(whole)]))
		}
	}
}

// Whatever the records are: numbers that are drawn by a seed, and one record at a place. (P8.1, P8.2)
func FuzzRebuild(f *testing.F) {
	f.Add(uint64(1), 1, 1, 0, 1, 0, 0, 0)
	f.Add(uint64(2), 9, 2, 1, 1, 0, api.Break, 0)
	f.Add(uint64(3), 20, 3, 2, 1, 4, 0, 0)
	f.Add(uint64(4), 30, 4, 3, api.MaxEpoch, 4, 0, 0)
	f.Add(uint64(5), 5, 5, 0, 2, 0, api.Publish, 7)
	f.Add(uint64(6), 3, 6, -1, -1, 9, 9, 9)
	f.Fuzz(func(t *testing.T, seed uint64, at, kind, q, epoch, peer, event, id int) {
		d := die(seed)
		var l []api.Record
		berths := make([]api.Berth, api.MaxQueues)
		for i := range 40 {
			k := d.n(api.MaxQueues)
			r := d.record(k, berths[k])
			if i == at {
				r = api.Record{Kind: kind, Queue: q, Epoch: epoch, Peer: peer, Event: api.Event{Kind: event, Id: id}}
			}
			if next, ok := agrees(t, berths[k], r); ok && r.Queue == k {
				l = append(l, r)
				berths[k] = next
			} else if i == at {
				l = append(l, r)
			}
		}
		agreesAll(t, l)
	})
}
