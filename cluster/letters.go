package cluster

import (
	"slices"

	"berthshift/api"
	"berthshift/directory"
)

// Kinds of letters.
const (
	calling   = iota // a client asks a node
	answering        // a node answers a client
	coming           // a source tells its target that a queue is to come
	having           // a target tells its source how many events it has
	parting          // a source sends its target some events
	claiming         // a node tells the directory that it has a queue
	seeking          // a node asks the directory where a queue is
	placing          // the directory tells a node where a queue is
)

// letter on its way. One that is doubled comes twice: it is not changed.
type letter struct {
	kind   int
	from   int // the node that sent it
	to     int // the node that it goes to
	queue  int
	number int       // of the call
	op     api.Event // calling
	answer api.Answer
	place  api.Place // answering, placing: where the queue is
	epoch  int       // coming, having, parting: that of the target; claiming: that of the node
	at     int       // having: how many events; parting: the place of the first one
	events []api.Event
	last   bool // parting: there are no more events
}

// takers of letters, by their kinds.
func takers(w *world) map[int]func(*letter) {
	return map[int]func(*letter){
		calling:   w.toNode,
		answering: w.toClient,
		coming:    w.toNode,
		having:    w.toNode,
		parting:   w.toNode,
		claiming:  w.flip,
		seeking:   w.tell,
		placing:   w.toNode,
	}
}

// toNode: a letter waits there, if the node is up.
func (w *world) toNode(l *letter) {
	if n := w.nodes[l.to]; n.up {
		n.waiting = append(n.waiting, l)
	}
}

// toClient: an answer is told.
func (w *world) toClient(l *letter) {
	w.told = append(w.told, api.Told{Number: l.number, Answer: l.answer, Place: l.place})
}

// flip a queue in the directory, if it can be: of the same claim only the first one does.
func (w *world) flip(l *letter) {
	if d, refused := directory.Flip(w.places, l.queue, l.epoch-1, l.from); refused == api.OK {
		w.places = d
	}
	w.tell(l)
}

// tell a node what the directory says.
func (w *world) tell(l *letter) {
	w.send(letter{kind: placing, to: l.from, queue: l.queue, place: w.places.Places[l.queue]})
}

// send a letter.
func (w *world) send(l letter) { w.flying = append(w.flying, &l) }

// call a node.
func (w *world) call(a api.Act) {
	w.send(letter{kind: calling, to: a.Node, queue: a.Queue, number: w.calls, op: a.Op})
	w.calls++
}

// one letter comes, or not, and stays on its way, or not.
func (w *world) one(a api.Act) {
	if len(w.flying) == 0 {
		return
	}
	at := a.At % len(w.flying)
	l := w.flying[at]
	if a.Kind != api.Double {
		w.flying = slices.Delete(w.flying, at, at+1)
	}
	if a.Kind != api.Lose {
		w.takers[l.kind](l)
	}
}

// all letters come; what they cause is sent behind them.
func (w *world) all() {
	come := w.flying
	w.flying = nil
	for _, l := range come {
		w.takers[l.kind](l)
	}
}
