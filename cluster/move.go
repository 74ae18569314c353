package cluster

import (
	"berthshift/api"
	"berthshift/mooring"
)

// begin: a target is told that a queue is to come; it says how much of it is here.
func (n *node) begin(l *letter) {
	m := n.moorings[l.queue]
	next, refused := mooring.Begin(m, l.epoch, l.from)
	switch {
	case refused != api.OK:
	case next.Epoch == m.Epoch: // it knew that: what it said, or what it was sent for that, may be lost
		n.have(l.queue)
	default:
		after := func() {
			n.moorings[l.queue] = next
			n.have(l.queue)
		}
		n.write(after, api.Record{Kind: api.Begin, Queue: l.queue, Epoch: l.epoch, Peer: l.from})
	}
}

// have: a target tells its source how many events are here.
func (n *node) have(q int) {
	m := n.moorings[q]
	n.world.send(letter{kind: having, from: n.number, to: m.From, queue: q, epoch: m.Epoch, at: len(m.Events)})
}

// catchUp: a source is told how many events its target has; it sends the next ones, and seals ahead of the last ones.
func (n *node) catchUp(l *letter) {
	m := n.moorings[l.queue]
	if m.To != l.from || m.Epoch+1 != l.epoch { // of a move that was off, or is over
		return
	}
	next, refused := mooring.Caught(m, l.at)
	if refused != api.OK {
		return
	}
	after := func() {
		n.moorings[l.queue] = next
		n.part(l.queue, l.at)
	}
	if next.Role == m.Role {
		after()
		return
	}
	n.write(after, api.Record{Kind: api.Seal, Queue: l.queue, Epoch: m.Epoch, Peer: m.To})
}

// part: a source sends its target the next events.
func (n *node) part(q, have int) {
	m := n.moorings[q]
	if events, last, refused := mooring.Part(m, have); refused == api.OK {
		n.world.send(letter{kind: parting, from: n.number, to: m.To, queue: q, epoch: m.Epoch + 1, at: have, events: events, last: last})
	}
}

// take events that a target is sent. Where they bring nothing it says nothing: whatever is lost is asked for by the source, and of several that ask for the same one goes on.
func (n *node) take(l *letter) {
	m := n.moorings[l.queue]
	next, refused := mooring.Import(m, l.epoch, l.at, l.events, l.last)
	if refused != api.OK {
		return
	}
	records := imports(l.queue, next, len(m.Events))
	if len(records) == 0 {
		return
	}
	n.write(func() { n.arrive(l.queue, next) }, records...)
}

// imports: the records of the events from a place on; an Activate stands for the Break of a mooring that is active.
func imports(q int, m mooring.Mooring, from int) []api.Record {
	var l []api.Record
	for _, e := range m.Events[from:] {
		l = append(l, api.Record{Kind: api.Import, Queue: q, Epoch: m.Epoch, Event: e})
	}
	if m.Role == api.Active {
		l[len(l)-1] = api.Record{Kind: api.Activate, Queue: q, Epoch: m.Epoch}
	}
	return l
}

// arrive: what a target was sent is here. The directory is told of a queue that is whole, not the source, which asks there.
func (n *node) arrive(q int, m mooring.Mooring) {
	n.moorings[q] = m
	if m.Role == api.Active {
		n.count(q, api.Event{Kind: api.Break}, api.Answer{}, nobody)
		return
	}
	n.have(q)
}

// learn where a queue is; letters may come late: what is known of a later epoch stays. A source whose queue is elsewhere forgets it.
func (n *node) learn(l *letter) {
	q := l.queue
	if l.place.Epoch > n.hints[q].Epoch {
		n.hints[q] = l.place
	}
	next, refused := mooring.Forget(n.moorings[q], l.place.Epoch)
	if refused == api.OK {
		n.write(func() { n.moorings[q] = next }, api.Record{Kind: api.Forget, Queue: q, Epoch: next.Epoch})
	}
}
