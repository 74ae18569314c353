package window_test

import (
	"math"
	"slices"
	"testing"

	"berthshift/api"
	"berthshift/window"
)

// of: a window, what it remembers written as a text, the lowest one first: x was taken.
func of(top int, taken string) api.Window {
	w := api.Window{Top: top}
	for i := range w.Seen {
		w.Seen[i] = taken[i] == 'x'
	}
	return w
}

// behind ids, from an empty window on; each one must be taken without an error.
func behind(t *testing.T, ids ...int) api.Window {
	t.Helper()
	var w api.Window
	for _, id := range ids {
		var e api.Errno
		if w, _, e = window.Take(w, id); e != api.OK {
			t.Fatalf("Take of %d, of %v: %v", id, ids, e)
		}
	}
	return w
}

// model of a window, by another way than the program's: the ids that it remembers as taken, one by one.
type model struct {
	top   int
	taken map[int]int
}

func modelOf(w api.Window) model {
	m := model{w.Top, map[int]int{}}
	for i, x := range w.Seen {
		if x {
			m.taken[w.Top-8+i] = 1
		}
	}
	return m
}

func (m model) mayBe() bool {
	if m.top < 0 || m.top > 1<<30+1 {
		return false
	}
	for id := range m.taken {
		if id < 0 {
			return false
		}
	}
	return m.top == 0 || m.taken[m.top-1] == 1
}

// refuses: what is an id refused with?
func (m model) refuses(id int) api.Errno {
	switch {
	case !m.mayBe():
		return api.ErrState
	case id < 0 || id > 1<<30:
		return api.ErrRange
	case id < m.top-8:
		return api.ErrLow
	}
	return api.OK
}

// with an id that is not refused.
func (m model) with(id int) api.Window {
	w := api.Window{Top: max(m.top, id+1)}
	for i := range w.Seen {
		x := w.Top - 8 + i
		w.Seen[i] = x == id || m.taken[x] == 1
	}
	return w
}

// agrees: do all calls answer for a window and an id as the model does?
func agrees(t *testing.T, w api.Window, id int) {
	t.Helper()
	m := modelOf(w)
	if got := window.Check(w); (got == api.OK) != m.mayBe() || got != api.OK && got != api.ErrState {
		t.Errorf("Check of %v: %v, may be: %v", w, got, m.mayBe())
	}
	want, was, next := m.refuses(id), false, api.Window{}
	if want == api.OK {
		was, next = m.taken[id] == 1, m.with(id)
	}
	if got, e := window.Seen(w, id); got != was || e != want {
		t.Errorf("Seen of %v, %d: %v, %v; want %v, %v", w, id, got, e, was, want)
	}
	fresh := want == api.OK && !was
	got, isNew, e := window.Take(w, id)
	if got != next || isNew != fresh || e != want {
		t.Errorf("Take of %v, %d: %v, %v, %v; want %v, %v, %v", w, id, got, isNew, e, next, fresh, want)
	}
	if e == api.OK && window.Check(got) != api.OK {
		t.Errorf("Take of %v, %d: %v, which may not be", w, id, got)
	}
}

// P3.1: Check of windows that may be, and of such that may not.
func TestCheck(t *testing.T) {
	for _, c := range []struct {
		what string
		w    api.Window
		want api.Errno
	}{
		{"nothing", api.Window{}, api.OK},
		{"the id 0", of(1, ".......x"), api.OK},
		{"the id 1 alone", of(2, ".......x"), api.OK},
		{"the ids 0 and 1", of(2, "......xx"), api.OK},
		{"the ids 0 to 6", of(7, ".xxxxxxx"), api.OK},
		{"the ids 0 to 7", of(8, "xxxxxxxx"), api.OK},
		{"the ids 0 and 7", of(8, "x......x"), api.OK},
		{"Top - 1 alone", of(100, ".......x"), api.OK},
		{"the greatest Top", of(api.MaxId+1, "x......x"), api.OK},
		{"below the greatest Top", of(api.MaxId, ".......x"), api.OK},

		{"Top below 0", of(-1, "........"), api.ErrState},
		{"Top below 0, with its id", of(-1, ".......x"), api.ErrState},
		{"Top far below 0", of(math.MinInt, "........"), api.ErrState},
		{"Top far below 0, all ids", of(math.MinInt, "xxxxxxxx"), api.ErrState},
		{"Top where ids go round", of(math.MinInt+7, ".......x"), api.ErrState},
		{"Top too great", of(api.MaxId+2, ".......x"), api.ErrState},
		{"Top too great, all ids", of(api.MaxId+2, "xxxxxxxx"), api.ErrState},
		{"Top far too great", of(math.MaxInt, "xxxxxxxx"), api.ErrState},
		{"Top above 32 bits", of(1<<32, "xxxxxxxx"), api.ErrState},
		{"Top above 32 bits by one", of(1<<32+1, ".......x"), api.ErrState},

		{"Top 0, the id -1", of(0, ".......x"), api.ErrState},
		{"Top 0, the id -8", of(0, "x......."), api.ErrState},
		{"Top 1, the id -1", of(1, "......xx"), api.ErrState},
		{"Top 1, the id -7", of(1, "x......x"), api.ErrState},
		{"Top 7, the id -1", of(7, "x......x"), api.ErrState},
		{"Top 7, the ids -1 to 6", of(7, "xxxxxxxx"), api.ErrState},

		{"Top 1, nothing taken", of(1, "........"), api.ErrState},
		{"Top 2, the id 0 alone", of(2, "......x."), api.ErrState},
		{"Top 8, without Top - 1", of(8, "xxxxxxx."), api.ErrState},
		{"Top 100, nothing taken", of(100, "........"), api.ErrState},
		{"the greatest Top, nothing taken", of(api.MaxId+1, "........"), api.ErrState},
		{"the greatest Top, without Top - 1", of(api.MaxId+1, "xxxxxxx."), api.ErrState},
	} {
		if got := window.Check(c.w); got != c.want {
			t.Errorf("%s: Check: %v, want %v", c.what, got, c.want)
		}
	}
}

// P3.1: a window that may not be is refused ahead of all that is wrong with an id, and nothing else is answered.
func TestMayNotBe(t *testing.T) {
	for _, w := range []api.Window{
		of(-1, "........"), of(math.MinInt, "xxxxxxxx"), of(api.MaxId+2, "xxxxxxxx"), of(math.MaxInt, ".......x"),
		of(0, "x......."), of(7, "x......x"), of(1, "........"), of(100, "xxxxxxx."), of(api.MaxId+1, "........"),
	} {
		for _, id := range []int{math.MinInt, -1, 0, 1, 7, 50, 92, 99, 100, api.MaxId, api.MaxId + 1, math.MaxInt} {
			if got, e := window.Seen(w, id); got || e != api.ErrState {
				t.Errorf("Seen of %v, %d: %v, %v", w, id, got, e)
			}
			if got, fresh, e := window.Take(w, id); got != (api.Window{}) || fresh || e != api.ErrState {
				t.Errorf("Take of %v, %d: %v, %v, %v", w, id, got, fresh, e)
			}
		}
	}
}

// P3.2: below what is remembered, the lowest one that is, Top and above; ids outside their range.
func TestSeen(t *testing.T) {
	example := of(10, ".......x") // behind 0, 1 and 9
	mixed := of(100, "x.xx...x")
	last := of(api.MaxId+1, "x.....xx")
	for _, c := range []struct {
		w    api.Window
		id   int
		want bool
		e    api.Errno
	}{
		{example, 0, false, api.ErrLow},
		{example, 1, false, api.ErrLow},
		{example, 2, false, api.OK},
		{example, 8, false, api.OK},
		{example, 9, true, api.OK},
		{example, 10, false, api.OK},

		{mixed, 0, false, api.ErrLow},
		{mixed, 91, false, api.ErrLow},
		{mixed, 92, true, api.OK},
		{mixed, 93, false, api.OK},
		{mixed, 94, true, api.OK},
		{mixed, 95, true, api.OK},
		{mixed, 96, false, api.OK},
		{mixed, 98, false, api.OK},
		{mixed, 99, true, api.OK},
		{mixed, 100, false, api.OK},
		{mixed, 101, false, api.OK},
		{mixed, 107, false, api.OK},
		{mixed, 108, false, api.OK},
		{mixed, api.MaxId, false, api.OK},

		{api.Window{}, 0, false, api.OK},
		{api.Window{}, 8, false, api.OK},
		{api.Window{}, api.MaxId, false, api.OK},
		{of(1, ".......x"), 0, true, api.OK},
		{of(1, ".......x"), 1, false, api.OK},
		{of(8, "x......x"), 0, true, api.OK},
		{of(8, "x......x"), 1, false, api.OK},
		{of(9, "x......x"), 0, false, api.ErrLow},
		{of(9, "x......x"), 1, true, api.OK},

		{last, 0, false, api.ErrLow},
		{last, api.MaxId - 8, false, api.ErrLow},
		{last, api.MaxId - 7, true, api.OK},
		{last, api.MaxId - 6, false, api.OK},
		{last, api.MaxId - 1, true, api.OK},
		{last, api.MaxId, true, api.OK},
	} {
		if got, e := window.Seen(c.w, c.id); got != c.want || e != c.e {
			t.Errorf("Seen of %v, %d: %v, %v; want %v, %v", c.w, c.id, got, e, c.want, c.e)
		}
	}
}

// P3.2, P3.3: ids outside their range, whatever the window remembers; also where they are below it as well.
func TestRange(t *testing.T) {
	for _, w := range []api.Window{{}, of(1, ".......x"), of(8, "xxxxxxxx"), of(100, "xxxxxxxx"), of(api.MaxId, "xxxxxxxx"), of(api.MaxId+1, "xxxxxxxx")} {
		for _, id := range []int{-1, -8, -9, -1 << 32, math.MinInt, math.MinInt + 8, api.MaxId + 1, api.MaxId + 2, 1 << 32, 1<<32 + 99, math.MaxInt} {
			if got, e := window.Seen(w, id); got || e != api.ErrRange {
				t.Errorf("Seen of %v, %d: %v, %v", w, id, got, e)
			}
			if got, fresh, e := window.Take(w, id); got != (api.Window{}) || fresh || e != api.ErrRange {
				t.Errorf("Take of %v, %d: %v, %v, %v", w, id, got, fresh, e)
			}
		}
	}
}

// P3.3: a new one, one again, one that is refused, Top, each jump up to beyond the whole window, the least and the greatest id.
func TestTake(t *testing.T) {
	mixed := of(100, "x.xx...x")
	for _, c := range []struct {
		w    api.Window
		id   int
		want api.Window
		new  bool
		e    api.Errno
	}{
		{api.Window{}, 0, of(1, ".......x"), true, api.OK},
		{api.Window{}, 1, of(2, ".......x"), true, api.OK},
		{api.Window{}, 7, of(8, ".......x"), true, api.OK},
		{api.Window{}, api.MaxId, of(api.MaxId+1, ".......x"), true, api.OK},
		{of(1, ".......x"), 0, of(1, ".......x"), false, api.OK},
		{of(2, ".......x"), 0, of(2, "......xx"), true, api.OK},
		{of(2, "......xx"), 9, of(10, ".......x"), true, api.OK},

		{mixed, 91, api.Window{}, false, api.ErrLow},
		{mixed, 0, api.Window{}, false, api.ErrLow},
		{mixed, 92, mixed, false, api.OK},
		{mixed, 93, of(100, "xxxx...x"), true, api.OK},
		{mixed, 94, mixed, false, api.OK},
		{mixed, 98, of(100, "x.xx..xx"), true, api.OK},
		{mixed, 99, mixed, false, api.OK},
		{of(100, ".......x"), 92, of(100, "x......x"), true, api.OK},

		{mixed, 100, of(101, ".xx...xx"), true, api.OK},
		{mixed, 101, of(102, "xx...x.x"), true, api.OK},
		{mixed, 105, of(106, ".x.....x"), true, api.OK},
		{mixed, 106, of(107, "x......x"), true, api.OK},
		{mixed, 107, of(108, ".......x"), true, api.OK},
		{mixed, 108, of(109, ".......x"), true, api.OK},
		{mixed, 115, of(116, ".......x"), true, api.OK},
		{mixed, 1000000, of(1000001, ".......x"), true, api.OK},
		{mixed, api.MaxId, of(api.MaxId+1, ".......x"), true, api.OK},

		{of(api.MaxId, "xx.....x"), api.MaxId, of(api.MaxId+1, "x.....xx"), true, api.OK},
		{of(api.MaxId+1, "x......x"), api.MaxId, of(api.MaxId+1, "x......x"), false, api.OK},
		{of(api.MaxId+1, ".......x"), api.MaxId - 7, of(api.MaxId+1, "x......x"), true, api.OK},
		{of(api.MaxId+1, ".......x"), api.MaxId - 8, api.Window{}, false, api.ErrLow},
	} {
		if got, fresh, e := window.Take(c.w, c.id); got != c.want || fresh != c.new || e != c.e {
			t.Errorf("Take of %v, %d: %v, %v, %v; want %v, %v, %v", c.w, c.id, got, fresh, e, c.want, c.new, c.e)
		}
	}
}

// P3.3: the chapter's example, and others, from an empty window on.
func TestBehind(t *testing.T) {
	for _, c := range []struct {
		ids  []int
		want api.Window
	}{
		{nil, api.Window{}},
		{[]int{0, 1, 9}, of(10, ".......x")},
		{[]int{0, 1, 8}, of(9, "x......x")},
		{[]int{3, 1, 2, 0}, of(4, "....xxxx")},
		{[]int{7, 0, 7, 0}, of(8, "x......x")},
		{[]int{0, 1, 2, 3, 4, 5, 6, 7, 8, 9, 10, 11}, of(12, "xxxxxxxx")},
		{[]int{20, 13, 21}, of(22, "......xx")},
	} {
		if got := behind(t, c.ids...); got != c.want {
			t.Errorf("behind %v: %v, want %v", c.ids, got, c.want)
		}
	}
}

// P3.1 to P3.3: all that a window can remember, with Tops and ids at all edges, against the model.
func TestAll(t *testing.T) {
	tops := []int{math.MinInt, math.MinInt + 8, -8, -1, 20, 100, 1 << 29, 1 << 31, 1 << 32, 1<<32 + 1, math.MaxInt - 8, math.MaxInt}
	for n := range 11 {
		tops = append(tops, n, api.MaxId+3-n)
	}
	slices.Sort(tops)
	for _, top := range tops {
		ids := []int{math.MinInt, -9, -1, 0, 1, api.MaxId - 1, api.MaxId, api.MaxId + 1, 1 << 32, math.MaxInt}
		if top > -100 && top < 1<<40 {
			for id := top - 18; id < top+18; id++ {
				ids = append(ids, id)
			}
		}
		for bits := range 256 {
			w := api.Window{Top: top}
			for i := range w.Seen {
				w.Seen[i] = bits>>i&1 == 1
			}
			for _, id := range ids {
				agrees(t, w, id)
			}
		}
		if t.Failed() {
			t.Fatal("at the Top", top)
		}
	}
}

// What comes of it: no id is new twice, in whatever order ids come; and each one that is not refused is new once.
func TestNewOnce(t *testing.T) {
	d := uint64(7)
	for round := range 200 {
		var w api.Window
		news := map[int]int{}
		for range 300 {
			d = d*6364136223846793005 + 1442695040888963407
			id := max(0, w.Top-12) + int(d>>33)%(14+round%9)
			was := w
			next, fresh, e := window.Take(w, id)
			agrees(t, w, id)
			if e != api.OK {
				continue
			}
			w = next
			if fresh {
				news[id]++
			} else if w != was {
				t.Fatalf("%d is not new, and %v became %v", id, was, w)
			}
			if news[id] != 1 {
				t.Fatalf("%d was new %d times", id, news[id])
			}
			if again, fresh, e := window.Take(w, id); again != w || fresh || e != api.OK {
				t.Fatalf("%d once more: %v, %v, %v", id, again, fresh, e)
			}
		}
	}
}

// Whatever window and id there are. (P3.1 to P3.3)
func FuzzTake(f *testing.F) {
	f.Add(0, byte(0), 0)
	f.Add(10, byte(0x80), 2)
	f.Add(api.MaxId+1, byte(0xff), api.MaxId)
	f.Add(math.MinInt, byte(1), math.MaxInt)
	f.Fuzz(func(t *testing.T, top int, bits byte, id int) {
		w := api.Window{Top: top}
		for i := range w.Seen {
			w.Seen[i] = bits>>i&1 == 1
		}
		agrees(t, w, id)
	})
}
