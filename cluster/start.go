package cluster

import (
	"berthshift/api"
	"berthshift/history"
	"berthshift/mooring"
	"berthshift/rebuild"
	"berthshift/tape"
)

// nobody: the number of the call that asked, for what no call asked for.
const nobody = -1

// crash: the node has its tape alone.
func (n *node) crash(keep int) {
	if !n.up {
		return
	}
	n.counted = n.tape.Synced
	n.tape, _ = tape.Crash(n.tape, keep)
	n.up, n.memory = false, memory{}
}

// start: the node is up, with what its tape tells, if there is room for the Breaks.
func (n *node) start() {
	if n.up || n.stuck {
		return
	}
	n.tape, _ = tape.Repair(n.tape)
	berths := n.berths()
	m, breaks, room := wake(berths)
	late := n.late(berths)
	after := func() {
		n.up, n.memory = true, m
		for _, s := range late {
			n.world.count(s)
		}
		for _, r := range breaks {
			n.count(r.Queue, r.Event, api.Answer{}, nobody)
		}
	}
	if !room || !n.write(after, breaks...) {
		n.stuck = true
		return
	}
	n.sync()
}

// wake: what a node with these berths remembers, and the Breaks of those that are active; false: one of them has no room for it.
func wake(berths []api.Berth) (memory, []api.Record, bool) {
	woken := nothing()
	var breaks []api.Record
	for q, b := range berths {
		m, refused := mooring.Of(b)
		if refused == api.OK {
			m, refused = mooring.Wake(m)
		}
		if refused != api.OK {
			return memory{}, nil, false
		}
		woken.moorings[q] = m
		if b.Role == api.Active {
			breaks = append(breaks, api.Record{Kind: api.History, Queue: q, Epoch: b.Epoch, Event: api.Event{Kind: api.Break}})
		}
	}
	return woken, breaks, true
}

// late: what outlasted a crash though it was not yet served. It was written for one letter, so that one event at most makes an answer, and it is its berth's last one.
func (n *node) late(berths []api.Berth) []api.Served {
	records, _, _ := tape.Read(api.Tape{Data: n.tape.Data[n.counted:]})
	var l []api.Served
	for _, r := range records {
		if r.Kind != api.History && r.Kind != api.Activate {
			continue
		}
		events := berths[r.Queue].Events
		answers, _ := history.Answers(events)
		last := len(events) - 1
		l = append(l, api.Served{Node: n.number, Queue: r.Queue, Epoch: r.Epoch, Op: events[last], Answer: answers[last], Number: nobody})
	}
	return l
}

// berths of a node: those that it has, or that its tape's records make if it is down.
func (n *node) berths() []api.Berth {
	if !n.up {
		records, _, _ := tape.Read(n.tape)
		l, _, _ := rebuild.All(records) // a node writes what fits
		return l
	}
	var l []api.Berth
	for _, m := range n.moorings {
		l = append(l, m.Moored())
	}
	return l
}
