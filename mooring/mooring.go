// Package mooring: a berth while its node is up, with the queue that its events make beside it.
//
// Package berth tells all events of a berth, from the first one on, each time that it is asked. A node is asked by every letter that comes, so that it remembers instead what they make. Each call answers what berth's of the same name does, for a mooring that Of made, or another call.
package mooring

import (
	"slices"

	"berthshift/api"
	"berthshift/berth"
	"berthshift/history"
	"berthshift/queue"
)

// Mooring of a queue at a node. Its lists are not changed, but shared with the moorings that are made of it.
type Mooring struct {
	api.Berth
	queue api.Queue // what the berth's events make
}

// Of a berth; refused is one that may not be.
func Of(b api.Berth) (Mooring, api.Errno) {
	if berth.Check(short(b)) != api.OK {
		return refuse(api.ErrState)
	}
	q, refused := history.Replay(b.Events)
	if refused != api.OK {
		return refuse(api.ErrState)
	}
	return Mooring{Berth: own(b), queue: q}, api.OK
}

// Moored: the berth, in new memory.
func (m Mooring) Moored() api.Berth { return own(m.Berth) }

// Serves: are clients served here?
func (m Mooring) Serves() bool { return m.Role == api.Active || m.Role == api.Draining }

// Serve a client: the mooring behind it, the answer, and whether there is one more event.
func Serve(m Mooring, e api.Event) (Mooring, api.Answer, bool, api.Errno) {
	_, a, _, refused := berth.Serve(bare(m), e)
	switch {
	case refused != api.OK:
		return Mooring{}, api.Answer{}, false, refused
	case !m.Serves(): // the answer does not hang on the events
		return m, a, false, api.OK
	}
	q, a, changed, _ := queue.Do(m.queue, e) // queue and event may be: it refuses nothing
	switch {
	case !changed:
		return m, a, false, api.OK
	case len(m.Events) >= api.MaxEvents-1: // the last place is kept for a Break
		return m, api.Answer{Code: api.ErrFull}, false, api.OK
	}
	m.Events, m.queue = behind(m.Events, e), q
	return m, a, true, api.OK
}

// Make a queue here.
func Make(m Mooring, epoch int) (Mooring, api.Errno) {
	b, refused := berth.Make(bare(m), epoch)
	return Mooring{Berth: b}, refused
}

// Go to another node.
func Go(m Mooring, to int) (Mooring, api.Errno) {
	b, refused := berth.Go(bare(m), to)
	return as(m, b, refused)
}

// Caught: the target has so many events; perhaps it is time to seal.
func Caught(m Mooring, have int) (Mooring, api.Errno) {
	b, refused := berth.Caught(lacking(m, have))
	return as(m, b, refused)
}

// Part of the events, from a place on; is it the last one?
func Part(m Mooring, have int) ([]api.Event, bool, api.Errno) {
	if _, _, refused := berth.Part(lacking(m, have)); refused != api.OK {
		return nil, false, refused
	}
	end := min(have+api.Chunk, len(m.Events))
	return slices.Clone(m.Events[have:end]), m.Role == api.Sealed && end == len(m.Events), api.OK
}

// Begin: a queue is to come.
func Begin(m Mooring, epoch, from int) (Mooring, api.Errno) {
	b, refused := berth.Begin(bare(m), epoch, from)
	if refused == api.OK && b.Epoch == m.Epoch { // told once more: what came stays
		return m, api.OK
	}
	return Mooring{Berth: b}, refused
}

// Import events from a place on; behind the last ones the mooring is active.
func Import(m Mooring, epoch, at int, l []api.Event, last bool) (Mooring, api.Errno) {
	switch {
	case m.Role != api.Importing:
		return refuse(api.ErrNone)
	case m.Epoch != epoch:
		return refuse(api.ErrEpoch)
	case at < 0 || at > len(m.Events):
		return refuse(api.ErrRange)
	}
	have := m.Events[at:]
	known := history.Common(have, l)
	if known < min(len(have), len(l)) || last && known < len(have) {
		return refuse(api.ErrForm)
	}
	next, ok := with(m, l[known:])
	if ok && last {
		next, ok = broken(next)
	}
	if !ok {
		return refuse(api.ErrForm)
	}
	return next, api.OK
}

// Forget: the queue is elsewhere, at a later epoch.
func Forget(m Mooring, epoch int) (Mooring, api.Errno) {
	b, refused := berth.Forget(bare(m), epoch)
	return Mooring{Berth: b}, refused
}

// Wake behind a crash: all leases end where clients are served; a move that was not sealed is off.
func Wake(m Mooring) (Mooring, api.Errno) {
	if !m.Serves() {
		return m, api.OK
	}
	next, ok := broken(m)
	if !ok {
		return refuse(api.ErrFull)
	}
	return next, api.OK
}

// bare: the berth without its events, for calls that do not hang on them.
func bare(m Mooring) api.Berth {
	b := m.Berth
	b.Events = nil
	return b
}

// short: a berth with no event but the first one, for calls that hang on whether there are any.
func short(b api.Berth) api.Berth {
	b.Events = b.Events[:min(1, len(b.Events))]
	return b
}

// lacking: the short berth, and the place in it that a place among all events is: ahead of one, behind the last one, or none. More is not asked by calls that hang on whether the target lacks any.
func lacking(m Mooring, have int) (api.Berth, int) {
	b := short(m.Berth)
	switch {
	case have < 0 || have > len(m.Events):
		return b, -1
	case have == len(m.Events):
		return b, len(b.Events)
	}
	return b, 0
}

// as: the mooring in the role of a berth that was made of it without its events.
func as(m Mooring, b api.Berth, refused api.Errno) (Mooring, api.Errno) {
	if refused != api.OK {
		return refuse(refused)
	}
	b.Events = m.Events
	return Mooring{Berth: b, queue: m.queue}, api.OK
}

// broken: the mooring is active from now on, and whatever was handed out is ready again.
func broken(m Mooring) (Mooring, bool) {
	m.Berth = api.Berth{Role: api.Active, Epoch: m.Epoch, Events: m.Events}
	return with(m, []api.Event{{Kind: api.Break}})
}

// with some events more; not ok: all together would be no history.
func with(m Mooring, l []api.Event) (Mooring, bool) {
	if len(m.Events)+len(l) > api.MaxEvents {
		return Mooring{}, false
	}
	for _, e := range l {
		q, _, changed, refused := queue.Do(m.queue, e)
		if refused != api.OK || !changed {
			return Mooring{}, false
		}
		m.queue = q
	}
	m.Events = behind(m.Events, l...)
	return m, true
}

// own: the berth with its events in memory of its own.
func own(b api.Berth) api.Berth {
	b.Events = slices.Clone(b.Events)
	return b
}

// behind events others are put, in new memory: the mooring that they stood in before still has them as they were.
func behind(l []api.Event, more ...api.Event) []api.Event { return slices.Concat(l, more) }

// refuse: with an error nothing else is answered.
func refuse(e api.Errno) (Mooring, api.Errno) { return Mooring{}, e }
