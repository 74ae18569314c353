// Package pack: events and records as numbers of four bytes.
package pack

import "berthshift/api"

// How many bytes a number has, and how many numbers a record has, without an event and with one.
const (
	width     = 4
	bare      = 4
	withEvent = 10
)

// Number as four bytes, the highest one first.
func Number(n int) ([]byte, api.Errno) {
	if !within(n, api.MaxNumber) {
		return nil, api.ErrRange
	}
	return put(n), api.OK
}

// Take a number that bytes begin with.
func Take(b []byte) (int, api.Errno) {
	if len(b) < width {
		return 0, api.ErrShort
	}
	n := int(b[0])<<24 | int(b[1])<<16 | int(b[2])<<8 | int(b[3])
	if n > api.MaxNumber {
		return 0, api.ErrRange
	}
	return n, api.OK
}

// Check an event.
func Check(e api.Event) api.Errno {
	rest := e // what is left when the fields that the kind has are taken away: nothing may be
	rest.Kind = 0
	switch e.Kind {
	case api.Publish:
		if !within(e.Producer, api.MaxProducers-1) || !within(e.Id, api.MaxId) || !within(e.Body, api.MaxBody) {
			return api.ErrRange
		}
		rest.Producer, rest.Id, rest.Body = 0, 0, 0
	case api.Ack:
		if !within(e.Handle.Epoch, api.MaxEpoch) || !within(e.Handle.No, api.MaxId) {
			return api.ErrRange
		}
		rest.Handle = api.Handle{}
	case api.Receive, api.Break:
	default:
		return api.ErrForm
	}
	return nothing(rest)
}

// Record: may it stand on a tape?
func Record(r api.Record) api.Errno {
	if r.Kind < api.Create || r.Kind > api.Forget {
		return api.ErrForm
	}
	if !within(r.Queue, api.MaxQueues-1) || !within(r.Epoch, api.MaxEpoch) || !within(r.Peer, api.MaxNodes-1) {
		return api.ErrRange
	}
	if hasEvent(r.Kind) {
		return Check(r.Event)
	}
	return nothing(r.Event)
}

// Encode a record.
func Encode(r api.Record) ([]byte, api.Errno) {
	if e := Record(r); e != api.OK {
		return nil, e
	}
	at := numbers(&r)
	count := bare
	if hasEvent(r.Kind) {
		count = withEvent
	}
	var l []int
	for _, p := range at[:count] {
		l = append(l, *p)
	}
	return put(l...), api.OK
}

// Decode a record.
func Decode(b []byte) (r api.Record, e api.Errno) {
	defer func() {
		if x := recover(); x != nil {
			// fill panics with nothing else; another value would be a fault of this package, not of the bytes
			r, e = api.Record{}, x.(api.Errno)
		}
	}()
	at := numbers(&r)
	b = fill(at[:bare], b)
	if hasEvent(r.Kind) {
		b = fill(at[bare:], b)
	}
	if len(b) > 0 || Record(r) != api.OK {
		return api.Record{}, api.ErrForm
	}
	return r, api.OK
}

// numbers of a record, in the order in which they are written: one list for both ways, so that they can't differ.
func numbers(r *api.Record) [withEvent]*int {
	e := &r.Event
	return [withEvent]*int{
		&r.Kind, &r.Queue, &r.Epoch, &r.Peer,
		&e.Kind, &e.Producer, &e.Id, &e.Body, &e.Handle.Epoch, &e.Handle.No,
	}
}

// put numbers that fit into four bytes, one behind the other.
func put(l ...int) []byte {
	b := make([]byte, 0, width*len(l))
	for _, n := range l {
		b = append(b, byte(n>>24), byte(n>>16), byte(n>>8), byte(n))
	}
	return b
}

// fill numbers from bytes, and answer what is behind these; it panics with what Take refuses.
func fill(at []*int, b []byte) []byte {
	for _, p := range at {
		n, e := Take(b)
		if e != api.OK {
			panic(e)
		}
		*p, b = n, b[width:]
	}
	return b
}

// hasEvent: do records of this kind have an event?
func hasEvent(kind int) bool { return kind == api.History || kind == api.Import }

// nothing may be in an event that is not there.
func nothing(e api.Event) api.Errno {
	if e != (api.Event{}) {
		return api.ErrForm
	}
	return api.OK
}

// within: is a number from 0 to most?
func within(n, most int) bool { return 0 <= n && n <= most }
