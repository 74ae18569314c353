package directory_test

import (
	"fmt"
	"math"
	"testing"

	"berthshift/api"
	"berthshift/directory"
)

// of: a directory, of its places, written out.
func of(a, b, c, d api.Place) api.Directory {
	return api.Directory{Places: [4]api.Place{a, b, c, d}}
}

// alone: a directory with one place; no other queue exists.
func alone(q int, p api.Place) api.Directory {
	d := of(none, none, none, none)
	d.Places[q] = p
	return d
}

var (
	none  = api.Place{Node: -1, Epoch: 0}
	empty = of(none, none, none, none)
	full  = of(api.Place{Node: 0, Epoch: 1}, api.Place{Node: 4, Epoch: 2}, api.Place{Node: 2, Epoch: api.MaxEpoch - 1}, api.Place{Node: 3, Epoch: api.MaxEpoch})
	mixed = of(api.Place{Node: 1, Epoch: 7}, none, api.Place{Node: 4, Epoch: api.MaxEpoch}, none)
)

// mayBe: directories that may be.
func mayBe() []api.Directory {
	l := []api.Directory{empty, full, mixed}
	for q := range api.MaxQueues {
		for _, p := range standing() {
			l = append(l, alone(q, p))
		}
	}
	return l
}

// standing: places where a queue may be.
func standing() []api.Place {
	var l []api.Place
	for node := range 5 {
		for _, epoch := range []int{1, 2, 1000, 1<<20 - 1, 1 << 20} {
			l = append(l, api.Place{Node: node, Epoch: epoch})
		}
	}
	return l
}

// wrong places: none of them may be.
func wrong() []api.Place {
	l := []api.Place{{}, {Node: -1, Epoch: 1}, {Node: -1, Epoch: 2}, {Node: -1, Epoch: -1}, {Node: -1, Epoch: api.MaxEpoch}, {Node: -1, Epoch: api.MaxEpoch + 1},
		{Node: -1, Epoch: math.MinInt}, {Node: -1, Epoch: math.MaxInt}, {Node: -1, Epoch: 1 << 32}, {Node: 1<<32 - 1, Epoch: 0}}
	for _, node := range []int{math.MinInt, -1 << 32, -5, -2, 5, 6, 1 << 32, 1<<32 + 1, math.MaxInt} {
		for _, epoch := range []int{-1, 0, 1, 2, 1 << 20, 1<<20 + 1} {
			l = append(l, api.Place{Node: node, Epoch: epoch})
		}
	}
	for node := range 5 {
		for _, epoch := range []int{math.MinInt, -1 << 32, -1, 0, 1<<20 + 1, 1<<20 + 2, 1 << 32, 1<<32 + 1, math.MaxInt} {
			l = append(l, api.Place{Node: node, Epoch: epoch})
		}
	}
	return l
}

// numbers at which queues and nodes begin and end, and far ones.
var numbers = []int{math.MinInt, -1 << 32, -5, -2, -1, 0, 1, 2, 3, 4, 5, 6, 1 << 32, 1<<32 + 1, math.MaxInt}

// epochs at which they begin and end, and far ones.
var epochs = []int{math.MinInt, -1, 0, 1, 2, 3, 1000, 1<<20 - 2, 1<<20 - 1, 1 << 20, 1<<20 + 1, 1 << 32, 1<<32 + 1, math.MaxInt}

// changed: has an answer this place for the queue, and every other place as before?
func changed(t *testing.T, what string, before, got api.Directory, q int, want api.Place, e api.Errno) {
	t.Helper()
	if e != api.OK {
		t.Errorf("%s: %v", what, e)
		return
	}
	for i, p := range got.Places {
		if i == q && p != want {
			t.Errorf("%s: the queue is at %v, want %v", what, p, want)
		}
		if i != q && p != before.Places[i] {
			t.Errorf("%s: the queue %d, which was at %v, is at %v", what, i, before.Places[i], p)
		}
	}
	if directory.Check(got) != api.OK {
		t.Errorf("%s: %v, which may not be", what, got)
	}
	if p, e := directory.Where(got, q); p != want || e != api.OK {
		t.Errorf("%s: Where says %v, %v; want %v", what, p, e, want)
	}
}

// refused: nothing but this error is answered.
func refused(t *testing.T, what string, got api.Directory, e, want api.Errno) {
	t.Helper()
	if got != (api.Directory{}) || e != want {
		t.Errorf("%s: %v, %v; want nothing, %v", what, got, e, want)
	}
}

// P6.1: directories that may be: without queues, with each queue, at the first and the last node, at the first and the last Epochs.
func TestCheck(t *testing.T) {
	for _, d := range mayBe() {
		if e := directory.Check(d); e != api.OK {
			t.Errorf("Check of %v: %v", d, e)
		}
	}
}

// P6.1: one place that may not be, alone and among others that may; all places; the zero value.
func TestCheckWrong(t *testing.T) {
	for _, p := range wrong() {
		for _, d := range []api.Directory{empty, full, mixed} {
			for q := range d.Places {
				x := d
				x.Places[q] = p
				if e := directory.Check(x); e != api.ErrState {
					t.Errorf("Check of %v: %v", x, e)
				}
			}
		}
		if e := directory.Check(of(p, p, p, p)); e != api.ErrState {
			t.Errorf("Check of %v everywhere: %v", p, e)
		}
	}
	if e := directory.Check(api.Directory{}); e != api.ErrState {
		t.Errorf("Check of the zero value: %v", e)
	}
}

// P6.1: Where, Make and Flip refuse a directory that may not be ahead of all else, also where another queue's place is the wrong one; nothing else is answered.
func TestMayNotBe(t *testing.T) {
	for _, p := range wrong() {
		for q := range api.MaxQueues {
			d := full
			d.Places[q] = p
			for _, asked := range []int{-1, 0, 1, 2, 3, 4} {
				notLookedAt(t, d, asked)
			}
		}
		notLookedAt(t, of(p, p, p, p), 0)
		notLookedAt(t, alone(1, p), 2) // a queue that there is not
	}
	notLookedAt(t, api.Directory{}, 0)
	notLookedAt(t, api.Directory{}, math.MinInt)
	notLookedAt(t, api.Directory{}, math.MaxInt)
}

// notLookedAt: does each call answer ErrState alone, whatever is asked?
func notLookedAt(t *testing.T, d api.Directory, q int) {
	t.Helper()
	if p, e := directory.Where(d, q); p != (api.Place{}) || e != api.ErrState {
		t.Errorf("Where of %v, %d: %v, %v", d, q, p, e)
	}
	for _, node := range []int{-1, 0, 3, 4, 5} {
		got, e := directory.Make(d, q, node)
		refused(t, fmt.Sprint("Make of ", d, q, node), got, e, api.ErrState)
		for _, epoch := range []int{0, 1, 2, api.MaxEpoch} {
			got, e := directory.Flip(d, q, epoch, node)
			refused(t, fmt.Sprint("Flip of ", d, q, epoch, node), got, e, api.ErrState)
		}
	}
}

// P6.2: a new directory may be, and has no queue; what is made of one is not seen in the next.
func TestNew(t *testing.T) {
	d := directory.New()
	if d != empty || directory.Check(d) != api.OK {
		t.Errorf("New: %v, %v", d, directory.Check(d))
	}
	for q := range api.MaxQueues {
		if p, e := directory.Where(d, q); p != (api.Place{}) || e != api.ErrNone {
			t.Errorf("Where in a new one, %d: %v, %v", q, p, e)
		}
		d.Places[q] = api.Place{Node: 1, Epoch: 1}
	}
	if again := directory.New(); again != empty {
		t.Errorf("New once more: %v", again)
	}
}

// P6.3: the place of each queue, as it stands.
func TestWhere(t *testing.T) {
	for q := range api.MaxQueues {
		if p, e := directory.Where(full, q); p != full.Places[q] || e != api.OK {
			t.Errorf("Where of %d: %v, %v; want %v", q, p, e, full.Places[q])
		}
		for _, want := range standing() {
			if p, e := directory.Where(alone(q, want), q); p != want || e != api.OK {
				t.Errorf("Where of %d alone: %v, %v; want %v", q, p, e, want)
			}
		}
	}
}

// P6.3: a queue that there is not, also where there are all others; numbers that are no queue's, also where there is none.
func TestWhereNone(t *testing.T) {
	for q := range api.MaxQueues {
		for _, d := range []api.Directory{empty, full, mixed} {
			d.Places[q] = none
			if p, e := directory.Where(d, q); p != (api.Place{}) || e != api.ErrNone {
				t.Errorf("Where of %v, %d: %v, %v", d, q, p, e)
			}
		}
	}
	for _, q := range numbers {
		if 0 <= q && q <= 3 {
			continue
		}
		for _, d := range []api.Directory{empty, full, mixed} {
			if p, e := directory.Where(d, q); p != (api.Place{}) || e != api.ErrRange {
				t.Errorf("Where of %v, %d: %v, %v", d, q, p, e)
			}
		}
	}
}

// P6.4: each queue at each node, at the Epoch 1, where there is none else, and where there are all others.
func TestMake(t *testing.T) {
	for q := range api.MaxQueues {
		for node := range api.MaxNodes {
			for _, d := range []api.Directory{empty, full, mixed} {
				d.Places[q] = none
				before := d
				got, e := directory.Make(d, q, node)
				changed(t, fmt.Sprint("Make of ", before, q, node), before, got, q, api.Place{Node: node, Epoch: 1}, e)
				if d != before {
					t.Errorf("Make of %v: what was handed in became %v", before, d)
				}
			}
		}
	}
	d := directory.New()
	for q, node := range []int{4, 0, 4, 2} { // two queues may be at one node
		var e api.Errno
		if d, e = directory.Make(d, q, node); e != api.OK {
			t.Fatalf("Make of %d: %v", q, e)
		}
	}
	if want := of(api.Place{Node: 4, Epoch: 1}, api.Place{Node: 0, Epoch: 1}, api.Place{Node: 4, Epoch: 1}, api.Place{Node: 2, Epoch: 1}); d != want {
		t.Errorf("Make of all: %v, want %v", d, want)
	}
}

// P6.4: ErrRange, whatever the queue's place is; else ErrTwice, at the same node and at another one, at any Epoch.
func TestMakeRefused(t *testing.T) {
	for _, d := range mayBe() {
		for _, q := range numbers {
			for _, node := range numbers {
				want := api.OK
				switch {
				case q < 0 || q > 3 || node < 0 || node > 4:
					want = api.ErrRange
				case d.Places[q] != none:
					want = api.ErrTwice
				}
				if got, e := directory.Make(d, q, node); want != api.OK {
					refused(t, fmt.Sprint("Make of ", d, q, node), got, e, want)
				} else if e != api.OK {
					t.Errorf("Make of %v, %d, %d: %v", d, q, node, e)
				}
			}
		}
	}
}

// P6.5: each queue from each node to each other one, at the next Epoch, the last one too.
func TestFlip(t *testing.T) {
	for q := range api.MaxQueues {
		for _, p := range standing() {
			for node := range api.MaxNodes {
				if node == p.Node || p.Epoch == api.MaxEpoch {
					continue
				}
				for _, d := range []api.Directory{empty, full, mixed} {
					d.Places[q] = p
					before := d
					got, e := directory.Flip(d, q, p.Epoch, node)
					changed(t, fmt.Sprint("Flip of ", before, q, p.Epoch, node), before, got, q, api.Place{Node: node, Epoch: p.Epoch + 1}, e)
					if d != before {
						t.Errorf("Flip of %v: what was handed in became %v", before, d)
					}
				}
			}
		}
	}
	got, e := directory.Flip(full, 2, 1<<20-1, 0)
	changed(t, "Flip to MaxEpoch", full, got, 2, api.Place{Node: 0, Epoch: 1 << 20}, e)
}

// P6.5: each error alone, and ahead of those that are named behind it.
func TestFlipRefused(t *testing.T) {
	at := func(node, epoch int) api.Directory { return alone(1, api.Place{Node: node, Epoch: epoch}) }
	for _, c := range []struct {
		what           string
		d              api.Directory
		q, epoch, node int
		want           api.Errno
	}{
		{"no queue's number", at(2, 3), 4, 3, 0, api.ErrRange},
		{"below the first queue", at(2, 3), -1, 3, 0, api.ErrRange},
		{"no queue's number, ahead of a wrong node", empty, 4, 0, 5, api.ErrRange},
		{"no such queue", at(2, 3), 0, 1, 0, api.ErrNone},
		{"no such queue, at its Epoch 0", at(2, 3), 0, 0, 0, api.ErrNone},
		{"no such queue, ahead of a wrong node", at(2, 3), 0, 0, 5, api.ErrNone},
		{"no such queue, ahead of its Node -1", at(2, 3), 0, 0, -1, api.ErrNone},
		{"no such queue, ahead of a wrong Epoch and a wrong node", at(2, 3), 3, math.MinInt, math.MaxInt, api.ErrNone},
		{"no such queue, the last one", at(2, 3), 3, 3, 2, api.ErrNone},

		{"above the last node", at(2, 3), 1, 3, 5, api.ErrRange},
		{"below the first node", at(2, 3), 1, 3, -1, api.ErrRange},
		{"a wrong node, ahead of a wrong Epoch", at(2, 3), 1, 4, 5, api.ErrRange},
		{"a wrong node, ahead of MaxEpoch", at(2, api.MaxEpoch), 1, api.MaxEpoch, -1, api.ErrRange},

		{"the Epoch before", at(2, 3), 1, 2, 0, api.ErrEpoch},
		{"the next Epoch", at(2, 3), 1, 4, 0, api.ErrEpoch},
		{"the Epoch 0", at(2, 1), 1, 0, 0, api.ErrEpoch},
		{"an Epoch below 0", at(2, 1), 1, -1, 0, api.ErrEpoch},
		{"an Epoch far below 0", at(2, 1), 1, math.MinInt, 0, api.ErrEpoch},
		{"an Epoch above all", at(2, api.MaxEpoch), 1, api.MaxEpoch + 1, 0, api.ErrEpoch},
		{"an Epoch far above all", at(2, 1), 1, math.MaxInt, 0, api.ErrEpoch},
		{"an Epoch that is the same in 32 bits", at(2, 1), 1, 1<<32 + 1, 0, api.ErrEpoch},
		{"another Epoch, ahead of the same node", at(2, 3), 1, 2, 2, api.ErrEpoch},
		{"another Epoch, ahead of MaxEpoch", at(2, api.MaxEpoch), 1, api.MaxEpoch - 1, 0, api.ErrEpoch},
		{"another Epoch, ahead of the same node and MaxEpoch", at(2, api.MaxEpoch), 1, 1, 2, api.ErrEpoch},

		{"the same node", at(2, 3), 1, 3, 2, api.ErrTwice},
		{"the same node, the first one", at(0, 1), 1, 1, 0, api.ErrTwice},
		{"the same node, the last one", at(4, api.MaxEpoch-1), 1, api.MaxEpoch - 1, 4, api.ErrTwice},
		{"the same node, ahead of MaxEpoch", at(2, api.MaxEpoch), 1, api.MaxEpoch, 2, api.ErrTwice},

		{"MaxEpoch", at(2, api.MaxEpoch), 1, api.MaxEpoch, 0, api.ErrFull},
		{"MaxEpoch, to the last node", at(2, api.MaxEpoch), 1, api.MaxEpoch, 4, api.ErrFull},
		{"MaxEpoch, among others", full, 3, api.MaxEpoch, 0, api.ErrFull},
		{"MaxEpoch, the first queue", alone(0, api.Place{Node: 0, Epoch: api.MaxEpoch}), 0, api.MaxEpoch, 1, api.ErrFull},
	} {
		got, e := directory.Flip(c.d, c.q, c.epoch, c.node)
		refused(t, c.what, got, e, c.want)
	}
}

// P6.5: what Where refuses, Flip refuses with the same error, whatever the epoch and the node.
func TestFlipAsWhere(t *testing.T) {
	for _, d := range append(mayBe(), api.Directory{}, alone(0, api.Place{Node: 5, Epoch: 1})) {
		for _, q := range numbers {
			_, want := directory.Where(d, q)
			if want == api.OK {
				continue
			}
			for _, epoch := range []int{-1, 0, 1, api.MaxEpoch} {
				for _, node := range []int{-1, 0, 4, 5} {
					got, e := directory.Flip(d, q, epoch, node)
					refused(t, fmt.Sprint("Flip of ", d, q, epoch, node), got, e, want)
				}
			}
		}
	}
}

// P6.5: of two that flip from one epoch on, one does, also where both mean the same node, or where the first one comes again.
func TestOneFlips(t *testing.T) {
	d := alone(2, api.Place{Node: 0, Epoch: 6})
	for first := 1; first < api.MaxNodes; first++ {
		once, e := directory.Flip(d, 2, 6, first)
		changed(t, "the first one", d, once, 2, api.Place{Node: first, Epoch: 7}, e)
		for second := range api.MaxNodes {
			got, e := directory.Flip(once, 2, 6, second)
			refused(t, "the second one", got, e, api.ErrEpoch)
		}
		back, e := directory.Flip(once, 2, 7, 0)
		changed(t, "back", once, back, 2, api.Place{Node: 0, Epoch: 8}, e)
	}
}

// model of a directory, by another way than the program's: the queues that exist alone, and where they stay.
type model map[int]*stay

type stay struct{ node, epoch int }

func (m model) make(q, node int) api.Errno {
	if q < 0 || q > 3 || node < 0 || node > 4 {
		return api.ErrRange
	}
	if m[q] != nil {
		return api.ErrTwice
	}
	m[q] = &stay{node, 1}
	return api.OK
}

func (m model) flip(q, epoch, node int) api.Errno {
	s := m[q]
	if q < 0 || q > 3 {
		return api.ErrRange
	}
	if s == nil {
		return api.ErrNone
	}
	for _, x := range []struct {
		wrong bool
		e     api.Errno
	}{{node < 0 || node > 4, api.ErrRange}, {epoch != s.epoch, api.ErrEpoch}, {node == s.node, api.ErrTwice}, {s.epoch == 1<<20, api.ErrFull}} {
		if x.wrong {
			return x.e
		}
	}
	s.node, s.epoch = node, epoch+1
	return api.OK
}

// directory that the model tells.
func (m model) directory() api.Directory {
	d := empty
	for q, s := range m {
		d.Places[q] = api.Place{Node: s.node, Epoch: s.epoch}
	}
	return d
}

func modelOf(d api.Directory) model {
	m := model{}
	for q, p := range d.Places {
		if p.Node >= 0 {
			m[q] = &stay{p.Node, p.Epoch}
		}
	}
	return m
}

// agrees: is what a call answered for d what the model says?
func agrees(t *testing.T, what string, m model, got api.Directory, e, want api.Errno) {
	t.Helper()
	if want != api.OK {
		refused(t, what, got, e, want)
		return
	}
	if got != m.directory() || e != api.OK || directory.Check(got) != api.OK {
		t.Errorf("%s: %v, %v; want %v", what, got, e, m.directory())
	}
}

// P6.5: every edge of a queue, an epoch and a node against one another, with the model.
func TestFlipAll(t *testing.T) {
	for _, d := range mayBe() {
		for _, q := range numbers {
			for _, epoch := range epochs {
				for _, node := range numbers {
					m := modelOf(d)
					want := m.flip(q, epoch, node)
					got, e := directory.Flip(d, q, epoch, node)
					agrees(t, fmt.Sprint("Flip of ", d, q, epoch, node), m, got, e, want)
				}
			}
		}
	}
}

// die: numbers that look drawn, the same each time.
type die uint64

func (d *die) n(most int) int {
	*d = *d*6364136223846793005 + 1442695040888963407
	return int(uint64(*d>>33) % uint64(most))
}

// P6.2 to P6.5: drawn calls, one behind the other, against the model.
func TestModel(t *testing.T) {
	d := die(6)
	for range 200 {
		x, m := directory.New(), model{}
		for range 60 {
			q, node, epoch := d.n(6)-1, d.n(7)-1, d.n(8)
			if s := m[q]; s != nil && d.n(2) == 0 {
				epoch = s.epoch
			}
			if d.n(3) == 0 {
				x = did(t, x, m, fmt.Sprint("make", q, node), m.make(q, node), func() (api.Directory, api.Errno) { return directory.Make(x, q, node) })
			} else {
				x = did(t, x, m, fmt.Sprint("flip", q, epoch, node), m.flip(q, epoch, node), func() (api.Directory, api.Errno) { return directory.Flip(x, q, epoch, node) })
			}
		}
	}
}

// did: the directory behind a call; what is refused leaves it as it was.
func did(t *testing.T, x api.Directory, m model, what string, want api.Errno, call func() (api.Directory, api.Errno)) api.Directory {
	t.Helper()
	got, e := call()
	agrees(t, fmt.Sprint(what, " of ", x), m, got, e, want)
	if e != api.OK {
		return x
	}
	return got
}

// Whatever places there are, and whatever is asked: no call panics, and each answers as the promises say. (P6.1, P6.3 to P6.5)
func FuzzDirectory(f *testing.F) {
	f.Add(-1, 0, 4, 1<<20, 1, 4, 1<<20, 2)
	f.Add(-1, 1, 4, 1, 1, 1, 1, 0)
	f.Add(0, 0, 2, 3, 0, 0, 0, 0)
	f.Add(3, 1<<20-1, -1, 0, 0, 1, 1<<20-1, 4)
	f.Fuzz(func(t *testing.T, nodeA, epochA, nodeB, epochB, q, asked, epoch, node int) {
		a, b := api.Place{Node: nodeA, Epoch: epochA}, api.Place{Node: nodeB, Epoch: epochB}
		d := of(none, a, b, none)
		if !stands(a) || !stands(b) {
			if e := directory.Check(d); e != api.ErrState {
				t.Errorf("Check of %v: %v", d, e)
			}
			notLookedAt(t, d, q)
			return
		}
		if e := directory.Check(d); e != api.OK {
			t.Errorf("Check of %v: %v", d, e)
		}
		m := modelOf(d)
		want := m.make(q, node)
		got, e := directory.Make(d, q, node)
		agrees(t, fmt.Sprint("Make of ", d, q, node), m, got, e, want)
		m = modelOf(d)
		want = m.flip(asked, epoch, node)
		got, e = directory.Flip(d, asked, epoch, node)
		agrees(t, fmt.Sprint("Flip of ", d, asked, epoch, node), m, got, e, want)
	})
}

// stands: may this place be?
func stands(p api.Place) bool {
	if p.Node == -1 {
		return p.Epoch == 0
	}
	return p.Node >= 0 && p.Node < 5 && p.Epoch > 0 && p.Epoch < 1<<20+1
}
