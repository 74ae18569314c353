package cluster

import (
	"berthshift/api"
	"berthshift/directory"
	"berthshift/mooring"
	"berthshift/tape"
)

// first epoch of a queue: the directory has it from the making on, so that it need not be told.
const first = 1

// node with its tape.
type node struct {
	world  *world
	number int
	up     bool
	tape   api.Tape
	memory
	counted int  // behind a crash: how many bytes of the tape were synced ahead of it
	stuck   bool // a Start found no room: what is on the tape of a node that is down stays, so that no other one will
}

// memory of a node: a crash takes it.
type memory struct {
	moorings [api.MaxQueues]mooring.Mooring // what is written and not synced is not in them
	hints    [api.MaxQueues]api.Place       // what the directory told
	waiting  []*letter
	after    func() // what is done when the tape is synced; nil: nothing is written that is not
	turn     int    // the queue of which it has to send something next
}

// nothing: what a node remembers at first.
func nothing() memory { return memory{hints: directory.New().Places} }

// deeds of a node, by the kinds of letters.
func deeds() map[int]func(*node, *letter) {
	return map[int]func(*node, *letter){
		calling: (*node).serve,
		coming:  (*node).begin,
		having:  (*node).catchUp,
		parting: (*node).take,
		placing: (*node).learn,
	}
}

// step: the node does a piece.
func (n *node) step() {
	switch {
	case !n.up:
	case n.after != nil:
		n.sync()
	default:
		n.work()
	}
}

// work on letters till something is written for one of them; where nothing is, there is time for what is to be sent.
func (n *node) work() {
	for len(n.waiting) > 0 {
		l := n.waiting[0]
		n.waiting = n.waiting[1:]
		n.world.deeds[l.kind](n, l)
		if n.after != nil {
			return
		}
	}
	n.push()
}

// write records, for what is to be done when they are synced. Is there no room for all of them, none is written.
func (n *node) write(after func(), l ...api.Record) bool {
	t := n.tape
	for _, r := range l {
		longer, refused := tape.Write(t, r)
		if refused != api.OK {
			return false
		}
		t = longer
	}
	n.tape, n.after = t, after
	return true
}

// sync the tape, and do what was written for.
func (n *node) sync() {
	n.tape, _ = tape.Sync(n.tape)
	after := n.after
	n.after = nil
	after()
}

// serve a client. An event is served when it is synced, and the mooring that it is added to then is the one of that time: it may have begun to drain.
func (n *node) serve(l *letter) {
	q := l.queue
	m := n.moorings[q]
	_, a, more, _ := mooring.Serve(m, l.op)
	if !m.Serves() {
		n.reply(l, a, n.hints[q])
		return
	}
	after := func() {
		n.moorings[q], _, _, _ = mooring.Serve(n.moorings[q], l.op)
		n.answer(l, a)
	}
	switch {
	case !more:
		n.answer(l, a)
	case !n.write(after, api.Record{Kind: api.History, Queue: q, Epoch: m.Epoch, Event: l.op}):
		n.answer(l, api.Answer{Code: api.ErrFull})
	}
}

// answer a client that is served.
func (n *node) answer(l *letter, a api.Answer) {
	n.count(l.queue, l.op, a, l.number)
	n.reply(l, a, api.Place{Node: -1})
}

// reply to a client.
func (n *node) reply(l *letter, a api.Answer, p api.Place) {
	n.world.send(letter{kind: answering, number: l.number, answer: a, place: p})
}

// count what was done for a queue that is served here.
func (n *node) count(q int, op api.Event, a api.Answer, number int) {
	n.world.count(api.Served{Node: n.number, Queue: q, Epoch: n.moorings[q].Epoch, Op: op, Answer: a, Number: number})
}

// push what is to be sent of its own for one queue, by turns.
func (n *node) push() {
	for range api.MaxQueues {
		q := n.turn
		n.turn = (q + 1) % api.MaxQueues
		if l := n.own(q); len(l) > 0 {
			for _, x := range l {
				n.world.send(x)
			}
			return
		}
	}
}

// own letters for a queue: what is to be told till it is known.
func (n *node) own(q int) []letter {
	m := n.moorings[q]
	tell := letter{kind: coming, from: n.number, to: m.To, queue: q, epoch: m.Epoch + 1}
	switch {
	case m.Role == api.Draining:
		return []letter{tell}
	case m.Role == api.Sealed:
		return []letter{tell, {kind: seeking, from: n.number, queue: q}}
	case m.Role == api.Active && m.Epoch > first && m.Epoch > n.hints[q].Epoch:
		return []letter{{kind: claiming, from: n.number, queue: q, epoch: m.Epoch}}
	}
	return nil
}
