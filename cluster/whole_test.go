package cluster_test

import (
	"fmt"
	"slices"
	"testing"

	"berthshift/api"
	"berthshift/berth"
	"berthshift/cluster"
	"berthshift/history"
	"berthshift/lines"
	"berthshift/queue"
)

// text of acts, for what is told of them.
func text(l []api.Act) string {
	s, _, _ := lines.Show(l[:min(len(l), 400)])
	return s
}

// never: the history that a queue that never moves has of what was served, which must have answered just that.
func never(t *testing.T, l []api.Act, o api.Outcome, q int) []api.Event {
	t.Helper()
	var x api.Queue
	var events []api.Event
	epoch := 1
	for _, s := range o.Served {
		if s.Queue != q {
			continue
		}
		y, a, changed, e := queue.Do(x, s.Op)
		if e != api.OK || a != s.Answer || s.Epoch < epoch {
			t.Fatalf("%s\nthe queue %d: %v was served, want %v, %v, at the epoch %d or later", text(l), q, s, a, e, epoch)
		}
		if x, epoch = y, s.Epoch; changed {
			events = append(events, s.Op)
		}
	}
	return events
}

// asked: what was served was asked for, or is a Break, or is of nobody since it outlasted a crash; what was told was answered.
func asked(t *testing.T, l []api.Act, o api.Outcome) {
	t.Helper()
	var calls []api.Act
	crashed := false
	for _, a := range l {
		if a.Kind == api.Call {
			calls = append(calls, a)
		}
		crashed = crashed || a.Kind == api.Crash
	}
	answers := map[int][]api.Answer{}
	for _, s := range o.Served {
		if s.Number >= 0 {
			a := calls[s.Number]
			if a.Node != s.Node || a.Queue != s.Queue || a.Op != s.Op {
				t.Fatalf("%s\n%v was asked for, served was %v", text(l), a, s)
			}
			answers[s.Number] = append(answers[s.Number], s.Answer)
		} else if s.Number != -1 || s.Op != end && !crashed {
			t.Fatalf("%s\nserved was %v", text(l), s)
		}
	}
	for _, x := range o.Told {
		refused := x.Answer == code(api.ErrNone) || x.Answer == code(api.ErrMoving)
		if !slices.Contains(answers[x.Number], x.Answer) && !refused {
			t.Fatalf("%s\ntold was %v, answered %v", text(l), x, answers[x.Number])
		}
		if p := x.Place; p != nowhere && (!refused || p.Epoch < 1 || p.Epoch > o.Directory.Places[calls[x.Number].Queue].Epoch) {
			t.Fatalf("%s\ntold was %v", text(l), x)
		}
	}
	if o.Calls != len(calls) {
		t.Fatalf("%s\n%d calls, want %d", text(l), o.Calls, len(calls))
	}
}

// holds: does a node have the queue, or had it and is not told yet that it is elsewhere?
func holds(b api.Berth) bool { return b.Role != api.Nobody && b.Role != api.Importing }

// greatest: which node that holds a queue has the greatest epoch; -1 if none holds it. No two have the same one.
func greatest(t *testing.T, l []api.Act, o api.Outcome, q int) int {
	t.Helper()
	top := -1
	for node, berths := range o.Berths {
		b := berths[q]
		if !holds(b) {
			continue
		}
		if top >= 0 && o.Berths[top][q].Epoch == b.Epoch {
			t.Fatalf("%s\nthe nodes %d and %d hold the queue %d at the epoch %d", text(l), top, node, q, b.Epoch)
		}
		if top < 0 || o.Berths[top][q].Epoch < b.Epoch {
			top = node
		}
	}
	return top
}

// sound: is a state one that may be? What was served is what a queue does that never moves; one node at most serves a queue, the one with the greatest epoch, which has all its events; others have the first ones of them; and the directory is at most one move behind.
func sound(t *testing.T, l []api.Act, o api.Outcome) {
	t.Helper()
	asked(t, l, o)
	for q, p := range o.Directory.Places {
		events := never(t, l, o, q)
		top := greatest(t, l, o, q)
		if (top < 0) != (p == nowhere) {
			t.Fatalf("%s\nthe queue %d is at %v: %v", text(l), q, p, o.Berths)
		}
		for node, berths := range o.Berths {
			b := berths[q]
			if berth.Check(b) != api.OK || (b.Role == api.Active || b.Role == api.Draining) && node != top {
				t.Fatalf("%s\nthe node %d has %v of the queue %d", text(l), node, b, q)
			}
			if common := history.Common(events, b.Events); node != top && common < len(b.Events) {
				t.Fatalf("%s\nthe node %d has %v of the queue %d, all events are %v", text(l), node, b, q, events)
			}
		}
		if top < 0 {
			continue
		}
		b := o.Berths[top][q]
		late := len(b.Events) - len(events) // what outlasted a crash is served by the Start
		if late < 0 || late > 1 || late > 0 && o.Up[top] || history.Common(events, b.Events) < len(events) {
			t.Fatalf("%s\nthe node %d has %v of the queue %d, all events are %v", text(l), top, b, q, events)
		}
		was := o.Berths[p.Node][q]
		if p != (api.Place{Node: top, Epoch: b.Epoch}) && (p.Epoch+1 != b.Epoch || was.Role != api.Sealed || was.Epoch != p.Epoch || was.To != top) {
			t.Fatalf("%s\nthe queue %d is at %v, and the node %d has %v", text(l), q, p, top, b)
		}
	}
}

// follows: a state behind another one, one act later: what was served and told stays, and epochs only rise, one by one in the directory.
func follows(t *testing.T, l []api.Act, was, is api.Outcome) {
	t.Helper()
	if len(is.Served) < len(was.Served) || !slices.Equal(is.Served[:len(was.Served)], was.Served) {
		t.Fatalf("%s\nserved was %v, is %v", text(l), was.Served, is.Served)
	}
	if len(is.Told) < len(was.Told) || !slices.Equal(is.Told[:len(was.Told)], was.Told) {
		t.Fatalf("%s\ntold was %v, is %v", text(l), was.Told, is.Told)
	}
	for q, p := range is.Directory.Places {
		if before := was.Directory.Places[q]; p != before && p.Epoch != before.Epoch+1 {
			t.Fatalf("%s\nthe queue %d was at %v, is at %v", text(l), q, before, p)
		}
		for node := range is.Berths {
			if a, b := was.Berths[node][q], is.Berths[node][q]; a.Epoch > b.Epoch || a.Role == api.Importing && b.Role == api.Importing && a.Epoch == b.Epoch && history.Common(a.Events, b.Events) < len(a.Events) {
				t.Fatalf("%s\nthe node %d had %v of the queue %d, has %v", text(l), node, a, q, b)
			}
		}
	}
}

// each state of a script is sound, and follows the one ahead of it.
func each(t *testing.T, l []api.Act) {
	t.Helper()
	was := ran(t, nil)
	for i := range l {
		is := ran(t, l[:i+1])
		sound(t, l[:i+1], is)
		follows(t, l[:i+1], was, is)
		was = is
	}
}

// started: all nodes are started behind a script, and so many fair rounds come.
func started(l []api.Act, n int) []api.Act {
	l = slices.Clone(l)
	for node := range api.MaxNodes {
		l = append(l, api.Act{Kind: api.Start, Node: node})
	}
	for range n {
		for node := range api.MaxNodes {
			l = append(l, api.Act{Kind: api.Step, Node: node})
		}
		l = append(l, api.Act{Kind: api.All})
	}
	return l
}

// enough fair rounds for a script, and whether all calls must be told behind these.
func enough(l []api.Act) (n int, all bool) {
	n, all = 200, true
	for _, a := range l {
		switch a.Kind {
		case api.Make, api.Call, api.Double, api.Move:
			n += 20
		case api.Crash:
			n += 20
			all = false
		case api.Lose:
			all = false
		}
	}
	return n, all
}

// crashed: all nodes crash behind a script, and so many bytes stay.
func crashed(l []api.Act, keep int) []api.Act {
	l = slices.Clone(l)
	for node := range api.MaxNodes {
		l = append(l, api.Act{Kind: api.Crash, Node: node, Keep: keep})
	}
	return l
}

// calms: P12.8: what so many fair rounds make of a script.
func calms(t *testing.T, l []api.Act, n int) api.Outcome {
	t.Helper()
	long := started(l, n)
	o := ran(t, long)
	sound(t, long, o)
	for q, p := range o.Directory.Places {
		for node, berths := range o.Berths {
			b := berths[q]
			if b.Role == api.Draining || b.Role == api.Sealed || node == p.Node && (b.Role != api.Active || b.Epoch != p.Epoch) {
				t.Fatalf("%s\nthe queue %d is at %v, and the node %d has %v", text(l), q, p, node, b)
			}
		}
	}
	told := map[int]int{}
	for _, x := range o.Told {
		told[x.Number]++
	}
	if _, all := enough(l); all && len(told) != o.Calls || o.Flying != 0 || o.Up != [5]bool{true, true, true, true, true} {
		t.Fatalf("%s\n%d calls of %d were told, and %d letters are on their way; up: %v", text(l), len(told), o.Calls, o.Flying, o.Up)
	}
	return o
}

// settles: P12.8: what enough fair rounds make of a script, whatever it is: nothing more comes of it then.
func settles(t *testing.T, l []api.Act) api.Outcome {
	t.Helper()
	n, _ := enough(l)
	o := calms(t, l, n)
	if more := ran(t, started(l, n+8)); !same(o, more) {
		t.Fatalf("%s\nmore fair rounds: %v, was %v", text(l), more, o)
	}
	long := started(l, n)
	if none, kept := ran(t, crashed(long, 0)), ran(t, crashed(long, api.MaxBytes)); !same(none, kept) {
		t.Fatalf("%s\nsomething is written that is not synced: %v, %v", text(l), none, kept)
	}
	return o
}

// die: numbers that look drawn, the same each time.
type die uint64

func (d *die) n(most int) int {
	*d = *d*6364136223846793005 + 1442695040888963407
	return int(uint64(*d>>33) % uint64(most))
}

// of several numbers one; where one stands more often it comes more often.
func (d *die) of(l ...int) int { return l[d.n(len(l))] }

// world that scripts are drawn for: so many nodes and queues.
type world struct{ nodes, queues int }

// op of a client.
func (d *die) op() api.Event {
	switch d.n(7) {
	case 0, 1, 2:
		return publish(d.n(2), d.n(24), d.n(100))
	case 3, 4:
		return receive
	}
	return ack(d.n(4), d.n(4))
}

// act of one of these kinds.
func (d *die) act(w world, kinds []int) api.Act {
	a := api.Act{Kind: d.of(kinds...)}
	switch a.Kind {
	case api.Make, api.Move:
		a.Queue, a.Node = d.n(w.queues), d.n(w.nodes)
	case api.Step, api.Start:
		a.Node = d.n(w.nodes)
	case api.Crash:
		a.Node, a.Keep = d.n(w.nodes), d.of(0, 0, 21, 22, 45, 46, 68, 92, 114, 138, 160, api.MaxBytes)
	case api.Carry, api.Lose, api.Double:
		a.At = d.n(9)
	case api.Call:
		a.Node, a.Queue, a.Op = d.n(w.nodes), d.n(w.queues), d.op()
	}
	return a
}

// moods of scripts: what happens often in them, beside that nodes step and letters come.
func moods() [][]int {
	quiet := []int{api.Call, api.Call, api.Step, api.Step, api.Step, api.Step, api.All, api.All, api.Carry, api.Move}
	return [][]int{
		quiet,
		append(slices.Clone(quiet), api.Lose, api.Lose, api.Double),
		append(slices.Clone(quiet), api.Double, api.Double, api.Carry, api.Carry, api.Carry),
		append(slices.Clone(quiet), api.Crash, api.Start, api.Start),
		append(slices.Clone(quiet), api.Crash, api.Crash, api.Start, api.Start, api.Start, api.Lose, api.Double, api.Carry, api.Make),
		{1, 2, 3, 4, 5, 6, 7, 8, 9, 10},
		{api.Step, api.Step, api.Step, api.Step, api.All, api.All, api.Move},
		{api.Call, api.Call, api.Call, api.Call, api.All, api.All, api.Step, api.Step, api.Step, api.Crash, api.Start, api.Start, api.Start},
		{api.Step, api.Step, api.Step, api.Step, api.Step, api.Carry, api.Carry, api.Carry, api.Double, api.Move, api.Crash, api.Start, api.Start},
	}
}

// script that looks drawn, of some acts; its queues are made first, most of them.
func (d *die) script(most int) []api.Act {
	w := world{2 + d.n(4), 1 + d.n(4)}
	var l []api.Act
	for q := range w.queues {
		if d.n(6) > 0 {
			l = append(l, api.Act{Kind: api.Make, Queue: q, Node: d.n(w.nodes)})
		}
	}
	kinds := moods()[d.n(len(moods()))]
	for range d.n(most) {
		l = append(l, d.act(w, kinds))
		if d.n(4) == 0 {
			l = append(l, api.Act{Kind: api.Step, Node: d.n(w.nodes)}, api.Act{Kind: api.All})
		}
	}
	return l
}

// What comes of it, in each state of scripts that look drawn. (P12.2 to P12.7)
func TestEachState(t *testing.T) {
	reached := map[int]int{}
	late, moves := 0, 0
	for seed := range 400 {
		d := die(seed)
		l := d.script(160)
		each(t, l)
		o := ran(t, l)
		for _, berths := range o.Berths {
			for _, b := range berths {
				reached[b.Role]++
			}
		}
		for _, s := range o.Served {
			if s.Number < 0 && s.Op != end {
				late++
			}
		}
		for _, p := range o.Directory.Places {
			moves += max(0, p.Epoch-1)
		}
	}
	for role := range 5 {
		if reached[role] < 30 {
			t.Errorf("the role %d was reached %d times", role, reached[role])
		}
	}
	if late < 10 || moves < 100 {
		t.Errorf("%d events were served late, and %d moves ended", late, moves)
	}
}

// P12.8: whatever a script is, fair rounds make that no move is under way, and all is answered.
func TestSettles(t *testing.T) {
	moves := 0
	for seed := range 300 {
		d := die(1000 + seed)
		o := settles(t, d.script(200))
		for _, p := range o.Directory.Places {
			moves += max(0, p.Epoch-1)
		}
	}
	if moves < 300 {
		t.Errorf("%d moves ended", moves)
	}
}

// travels: a script of moves of a queue with some messages, that are received and acked meanwhile.
func travels(t *testing.T) []api.Act {
	return acts(t, "make 0 0, publish 0 0 1 0 70, publish 0 0 1 1 71, publish 0 0 1 2 72, publish 0 0 1 3 73, receive 0 0, all, "+again(10, "step 0")+
		", move 0 2, step 0, all, step 2, ack 0 0 0 0, step 2, all, step 0, step 0, all, step 2, publish 0 0 1 4 74, step 2, all, step 0, step 0, all, step 2, step 0, step 2, all, "+
		rounds(10)+", receive 0 0, receive 2 0, "+rounds(4)+", move 0 1, step 2, all, receive 2 0, "+rounds(20)+", receive 1 0, ack 1 0 2 0, "+rounds(5))
}

// P12.5: where nothing goes wrong all of its moves end, and each of its states is sound.
func TestTravels(t *testing.T) {
	l := travels(t)
	each(t, l)
	if o := ran(t, l); o.Directory.Places[0] != (api.Place{Node: 1, Epoch: 3}) || o.Flying != 0 || o.Berths[0][0].Role+o.Berths[2][0].Role != api.Nobody {
		t.Errorf("%v", o)
	}
	settles(t, l)
}

// insert acts at a place of a script.
func insert(l []api.Act, at int, more ...api.Act) []api.Act {
	return slices.Concat(l[:at], more, l[at:])
}

// few fair rounds: enough for small scripts.
const few = 60

// P12.2 to P12.8: wherever a node crashes, and whatever stays of what was not synced, started at once or later.
func TestCrashAnywhere(t *testing.T) {
	l := travels(t)
	for at := range len(l) + 1 {
		for node := range 3 {
			for i, keep := range []int{0, 22, 46, 91, 92, api.MaxBytes} {
				crash, start := api.Act{Kind: api.Crash, Node: node, Keep: keep}, api.Act{Kind: api.Start, Node: node}
				x := insert(l, at, crash, start)
				if (at+i)%2 == 0 {
					x = insert(insert(l, min(at+9, len(l)), start), at, crash)
				}
				calms(t, x, few)
			}
		}
	}
}

// P12.2 to P12.8: whichever letter is lost, doubled or comes ahead of the others, wherever.
func TestLetterAnywhere(t *testing.T) {
	l := travels(t)
	for at := range len(l) + 1 {
		for letter := range ran(t, l[:at]).Flying {
			for _, kind := range []int{api.Lose, api.Double, api.Carry} {
				calms(t, insert(l, at, api.Act{Kind: kind, At: letter}), few)
			}
		}
	}
}

// P12.4, P12.8: messages that are published at all nodes, and once more, while the queues move: each that an answer says OK of is there once.
func TestBusy(t *testing.T) {
	var l []api.Act
	for q := range api.MaxQueues {
		l = append(l, api.Act{Kind: api.Make, Queue: q, Node: q})
	}
	d := die(5)
	for id := range 25 {
		for range 2 {
			for i := range api.MaxQueues * api.MaxNodes {
				l = append(l, api.Act{Kind: api.Call, Node: i / api.MaxQueues, Queue: i % api.MaxQueues, Op: publish(0, id, 100*id)})
			}
			l = append(l, acts(t, rounds(6))...)
		}
		l = append(l, api.Act{Kind: api.Move, Queue: d.n(4), Node: d.n(5)})
	}
	o := calms(t, l, 400)
	published := map[[2]int]int{}
	for _, s := range o.Served {
		if s.Op.Kind == api.Publish && s.Answer.Code == api.OK {
			published[[2]int{s.Queue, s.Op.Body}] = 1
		}
	}
	there := 0
	for q, p := range o.Directory.Places {
		x, e := history.Replay(o.Berths[p.Node][q].Events)
		for _, m := range x.Ready {
			there += published[[2]int{q, m.Body}]
		}
		if e != api.OK || len(x.Ready) < 15 || p.Epoch < 3 {
			t.Errorf("the queue %d at %v: %d messages, %v", q, p, len(x.Ready), e)
		}
	}
	if there != len(published) {
		t.Errorf("%d messages are there, of %d that were published", there, len(published))
	}
}

// Promises of a script with as many acts as may be: it ends, though each act makes work. (P12.1)
func TestLong(t *testing.T) {
	filled, _ := filled(300)
	for _, more := range []string{
		"move 0 2, step 0, double 0",
		"step 0, double 0, double 1, double 2",
		"receive 0 0, publish 0 0 1 5 5, all, step 0",
		"crash 2 0, start 2, move 0 2, step 0, all, step 2",
		rounds(1) + ", move 0 1, " + rounds(1) + ", move 0 2",
	} {
		l := acts(t, filled)
		for x := acts(t, more); len(l) < api.MaxSteps; {
			l = append(l, x[:min(len(x), api.MaxSteps-len(l))]...)
		}
		sound(t, l, ran(t, l))
	}
}

// scripted: acts of bytes, whatever they are.
func scripted(b []byte) []api.Act {
	l := []api.Act{{Kind: api.Make}}
	next := func(most int) int {
		if len(b) == 0 {
			return 0
		}
		n := int(b[0]) % most
		b = b[1:]
		return n
	}
	for len(b) > 0 && len(l) < 250 {
		a := api.Act{Kind: 1 + next(10)}
		switch a.Kind {
		case api.Make, api.Move:
			a.Queue, a.Node = next(2), next(3)
		case api.Step, api.Start:
			a.Node = next(3)
		case api.Crash:
			a.Node, a.Keep = next(3), next(200)
		case api.Carry, api.Lose, api.Double:
			a.At = next(200)
		case api.Call:
			a.Node, a.Queue = next(3), next(2)
			a.Op = []api.Event{publish(next(2), next(20), next(9)), receive, ack(next(3), next(3))}[next(3)]
		}
		l = append(l, a)
	}
	return l
}

// Whatever a script is: each state is sound, and fair rounds settle it. (P12.1 to P12.8)
func FuzzRun(f *testing.F) {
	for seed := range 8 {
		d := die(seed)
		var b []byte
		for range 200 {
			b = append(b, byte(d.n(256)))
		}
		f.Add(b)
	}
	f.Add([]byte{9, 0, 2, 2, 0, 6, 2, 2, 2, 2, 6, 2, 0, 2, 0, 6, 2, 2, 7, 2, 22, 8, 2})
	f.Fuzz(func(t *testing.T, b []byte) {
		l := scripted(b)
		each(t, l)
		settles(t, l)
	})
}

// Whatever acts are: Run does not panic, and refuses what Check does. (P12.1)
func FuzzActs(f *testing.F) {
	f.Add(1, 0, 0, 0, 0, 0, 0, 0, 0, 0, 0)
	f.Add(2, 4, 3, 0, 0, 1, 3, 1<<30, 1000000, 0, 0)
	f.Add(8, 1, 0, 0, 100001, 0, 0, 0, 0, 0, 0)
	f.Add(6, 0, 0, 1<<20, 0, 0, 0, 0, 0, 0, 0)
	f.Fuzz(func(t *testing.T, kind, node, q, at, keep, op, producer, id, body, epoch, no int) {
		e := api.Event{Kind: op, Producer: producer, Id: id, Body: body, Handle: api.Handle{Epoch: epoch, No: no}}
		a := api.Act{Kind: kind, Node: node, Queue: q, At: at, Keep: keep, Op: e}
		l := append(acts(t, "make 0 0, receive 0 0, all, step 0"), a, a, api.Act{Kind: api.All}, api.Act{Kind: api.Step}, a)
		o, refused := cluster.Run(l)
		if want := lines.Check(a); refused != want || want != api.OK && fmt.Sprint(o) != fmt.Sprint(api.Outcome{}) {
			t.Errorf("%v: %v, %v; want %v", a, o, refused, want)
		}
		if refused == api.OK {
			sound(t, l, o)
		}
	})
}
