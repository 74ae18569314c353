package lines_test

import (
	"fmt"
	"math"
	"math/big"
	"regexp"
	"slices"
	"strings"
	"testing"

	"berthshift/api"
	"berthshift/lines"
)

// Places of an act's numbers, all in one row.
const (
	kind = iota
	node
	queue
	at
	keep
	op
	producer
	id
	body
	epoch
	no
	count
)

// row: an act as all of its numbers, one behind the other.
type row [count]int

func (r row) act() api.Act {
	return api.Act{
		Kind: r[kind], Node: r[node], Queue: r[queue], At: r[at], Keep: r[keep],
		Op: api.Event{
			Kind: r[op], Producer: r[producer], Id: r[id], Body: r[body],
			Handle: api.Handle{Epoch: r[epoch], No: r[no]},
		},
	}
}

// shape: the rule of a word, written out: its Kinds, and which numbers it has, in their order.
type shape struct {
	word string
	kind int
	op   int
	has  []int
}

// shapes: the words, as the chapter lists them.
func shapes() []shape {
	return []shape{
		{"make", 1, 0, []int{queue, node}},
		{"move", 10, 0, []int{queue, node}},
		{"step", 3, 0, []int{node}},
		{"start", 9, 0, []int{node}},
		{"crash", 8, 0, []int{node, keep}},
		{"carry", 4, 0, []int{at}},
		{"lose", 5, 0, []int{at}},
		{"double", 6, 0, []int{at}},
		{"all", 7, 0, nil},
		{"publish", 2, 1, []int{node, queue, producer, id, body}},
		{"receive", 2, 2, []int{node, queue}},
		{"ack", 2, 3, []int{node, queue, epoch, no}},
	}
}

// bound: the greatest that a number may be.
func bound(place int) int {
	return map[int]int{
		node: 4, queue: 3, at: 1048576, keep: 100000,
		producer: 3, id: 1073741824, body: 1000000, epoch: 1048576, no: 1073741824,
	}[place]
}

// bare: the row of a word of which all numbers are 0.
func (s shape) bare() row { return row{kind: s.kind, op: s.op} }

// full: the row of a word of which all numbers are as great as may be.
func (s shape) full() row {
	r := s.bare()
	for _, p := range s.has {
		r[p] = bound(p)
	}
	return r
}

// line of a row of this word, whatever its numbers are.
func (s shape) line(r row) string {
	text := s.word
	for _, p := range s.has {
		text += fmt.Sprintf(" %d", r[p])
	}
	return text + "\n"
}

// outside: numbers that are not from 0 to most.
func outside(most int) []int {
	return []int{math.MinInt, math.MinInt + 1, -1 << 32, -1 << 31, -2, -1, most + 1, most + 2, most + 1<<32, math.MaxInt - 1, math.MaxInt}
}

// says: what the promises say of a row: the line it has, or the error. Bounds are for what the word has, and come ahead of what it has not.
func says(r row) (string, api.Errno) {
	for _, s := range shapes() {
		if s.kind != r[kind] || s.kind == 2 && s.op != r[op] {
			continue
		}
		for _, p := range s.has {
			if r[p] < 0 || r[p] > bound(p) {
				return "", api.ErrRange
			}
		}
		rest := r
		rest[kind] = 0
		if s.kind == 2 {
			rest[op] = 0
		}
		for _, p := range s.has {
			rest[p] = 0
		}
		if rest != (row{}) {
			return "", api.ErrForm
		}
		return s.line(r), api.OK
	}
	return "", api.ErrForm
}

// shown: the acts have this text.
func shown(t *testing.T, l []api.Act, want string) {
	t.Helper()
	if text, place, e := lines.Show(l); text != want || place != 0 || e != api.OK {
		t.Errorf("Show of %v: %q, %d, %v; want %q", l, text, place, e, want)
	}
}

// notShown: nothing but this place and this error is answered.
func notShown(t *testing.T, l []api.Act, place int, want api.Errno) {
	t.Helper()
	if text, i, e := lines.Show(l); text != "" || i != place || e != want {
		t.Errorf("Show: %q, %d, %v; want %d, %v", brief(text), i, e, place, want)
	}
}

// read: the text is of these acts.
func read(t *testing.T, text string, want []api.Act) {
	t.Helper()
	if l, place, e := lines.Read(text); !slices.Equal(l, want) || place != 0 || e != api.OK {
		t.Errorf("Read of %q: %v, %d, %v; want %v", brief(text), l, place, e, want)
	}
}

// notRead: nothing but this place and this error is answered.
func notRead(t *testing.T, text string, place int, want api.Errno) {
	t.Helper()
	if l, i, e := lines.Read(text); len(l) != 0 || i != place || e != want {
		t.Errorf("Read of %q: %v, %d, %v; want %d, %v", brief(text), l, i, e, place, want)
	}
}

// brief: the beginning of a text.
func brief(text string) string { return text[:min(len(text), 200)] }

// answered: does each call answer what the promises say of this row?
func answered(t *testing.T, r row) {
	t.Helper()
	a := r.act()
	text, want := says(r)
	if e := lines.Check(a); e != want {
		t.Errorf("Check of %v: %v, want %v", a, e, want)
	}
	calls, e := lines.Calls([]api.Act{a})
	if e != want || want != api.OK && calls != 0 || want == api.OK && calls != map[bool]int{true: 1}[r[kind] == 2] {
		t.Errorf("Calls of %v: %d, %v; want %v", a, calls, e, want)
	}
	if want != api.OK {
		notShown(t, []api.Act{a}, 0, want)
		return
	}
	shown(t, []api.Act{a}, text)
	read(t, text, []api.Act{a})
}

// P11.1, P11.2: each word, its numbers in their order, written out by hand.
func TestWords(t *testing.T) {
	for _, c := range []struct {
		text string
		act  api.Act
	}{
		{"make 3 4\n", api.Act{Kind: api.Make, Queue: 3, Node: 4}},
		{"make 0 1\n", api.Act{Kind: api.Make, Node: 1}},
		{"move 1 2\n", api.Act{Kind: api.Move, Queue: 1, Node: 2}},
		{"step 2\n", api.Act{Kind: api.Step, Node: 2}},
		{"start 3\n", api.Act{Kind: api.Start, Node: 3}},
		{"crash 1 70\n", api.Act{Kind: api.Crash, Node: 1, Keep: 70}},
		{"carry 10\n", api.Act{Kind: api.Carry, At: 10}},
		{"lose 0\n", api.Act{Kind: api.Lose}},
		{"double 1048576\n", api.Act{Kind: api.Double, At: api.MaxAt}},
		{"all\n", api.Act{Kind: api.All}},
		{"publish 4 3 2 1073741824 1000000\n", api.Act{Kind: api.Call, Node: 4, Queue: 3, Op: api.Event{Kind: api.Publish, Producer: 2, Id: api.MaxId, Body: api.MaxBody}}},
		{"publish 0 1 2 30 400\n", api.Act{Kind: api.Call, Queue: 1, Op: api.Event{Kind: api.Publish, Producer: 2, Id: 30, Body: 400}}},
		{"receive 4 1\n", api.Act{Kind: api.Call, Node: 4, Queue: 1, Op: api.Event{Kind: api.Receive}}},
		{"ack 1 0 2 3\n", api.Act{Kind: api.Call, Node: 1, Op: api.Event{Kind: api.Ack, Handle: api.Handle{Epoch: 2, No: 3}}}},
		{"ack 0 0 0 0\n", api.Act{Kind: api.Call, Op: api.Event{Kind: api.Ack}}},
	} {
		if e := lines.Check(c.act); e != api.OK {
			t.Errorf("Check of %v: %v", c.act, e)
		}
		shown(t, []api.Act{c.act}, c.text)
		read(t, c.text, []api.Act{c.act})
	}
}

// P11.1: each number of each word: at its ends, within, and outside of them; the others at both ends. Read has no act for a line with a number outside.
func TestBounds(t *testing.T) {
	for _, s := range shapes() {
		answered(t, s.bare())
		answered(t, s.full())
		for _, p := range s.has {
			for _, r := range []row{s.bare(), s.full()} {
				for _, n := range []int{0, 1, bound(p) / 2, bound(p) - 1, bound(p)} {
					r[p] = n
					if _, e := says(r); e != api.OK {
						t.Fatalf("%v: %v", r, e)
					}
					answered(t, r)
				}
				for _, n := range outside(bound(p)) {
					r[p] = n
					if e := lines.Check(r.act()); e != api.ErrRange {
						t.Errorf("Check of %v: %v", r.act(), e)
					}
					answered(t, r)
					notRead(t, s.line(r), 0, api.ErrForm)
				}
			}
		}
	}
}

// P11.1: no word: another Kind, or a Call with another Op; ahead of all else that is wrong.
func TestNoWord(t *testing.T) {
	var l []row
	for _, k := range []int{math.MinInt, -10, -1, 0, 11, 12, 1<<32 + 1, 1<<32 + 7, math.MaxInt} {
		l = append(l, row{kind: k}, row{kind: k, op: 2})
	}
	for _, o := range []int{math.MinInt, -1, 0, api.Break, 5, 6, 1<<32 + 2, math.MaxInt} {
		l = append(l, row{kind: 2, op: o})
	}
	for _, r := range l {
		answered(t, r)
		for p := range r {
			for _, n := range outside(bound(p)) {
				x := r
				if p != kind && p != op {
					x[p] = n
				}
				if e := lines.Check(x.act()); e != api.ErrForm {
					t.Errorf("Check of %v: %v", x.act(), e)
				}
				answered(t, x)
			}
		}
	}
}

// hasNot: which numbers a word does not have.
func (s shape) hasNot() []int {
	var l []int
	for p := range count {
		if p == kind || p == op && s.kind == 2 || slices.Contains(s.has, p) {
			continue
		}
		l = append(l, p)
	}
	return l
}

// P11.1: each number that a word does not have: whatever it is but 0, ErrForm, not ErrRange; but a number outside its bounds is told first, wherever both stand.
func TestLeft(t *testing.T) {
	for _, s := range shapes() {
		for _, p := range s.hasNot() {
			for _, n := range []int{math.MinInt, -1, 1, 2, 3, 4, 5, 1 << 20, 1<<30 + 1, 1 << 32, math.MaxInt} {
				for _, r := range []row{s.bare(), s.full()} {
					r[p] = n
					if e := lines.Check(r.act()); e != api.ErrForm {
						t.Errorf("Check of %v: %v", r.act(), e)
					}
					answered(t, r)
					for _, q := range s.has {
						for _, m := range []int{-1, bound(q) + 1} {
							x := r
							x[q] = m
							if e := lines.Check(x.act()); e != api.ErrRange {
								t.Errorf("Check of %v: %v", x.act(), e)
							}
							answered(t, x)
						}
					}
				}
			}
		}
	}
}

// P11.1 to P11.5: each Kind and each Op, with each pair of numbers at their ends and beside them, against the rule.
func TestPairs(t *testing.T) {
	for k := -1; k <= 11; k++ {
		for o := -1; o <= 5; o++ {
			for p := node; p < count; p++ {
				for q := p + 1; q < count; q++ {
					if p == op || q == op {
						continue
					}
					for _, n := range []int{-1, 0, bound(p), bound(p) + 1} {
						for _, m := range []int{-1, 0, bound(q), bound(q) + 1} {
							r := row{kind: k, op: o}
							r[p], r[q] = n, m
							answered(t, r)
						}
					}
				}
			}
		}
	}
}

// P11.3: acts one behind the other; none at all; the first one that may not be is told, with its own place.
func TestShow(t *testing.T) {
	shown(t, nil, "")
	shown(t, []api.Act{}, "")
	good := []api.Act{{Kind: api.All}, {Kind: api.Crash, Node: 1, Keep: 7}, {Kind: api.All}, {Kind: api.Call, Op: api.Event{Kind: api.Receive}}}
	shown(t, good, "all\ncrash 1 7\nall\nreceive 0 0\n")
	bad := []struct {
		act  api.Act
		want api.Errno
	}{
		{api.Act{}, api.ErrForm},
		{api.Act{Kind: api.All, At: 1}, api.ErrForm},
		{api.Act{Kind: api.Step, Node: 5}, api.ErrRange},
		{api.Act{Kind: api.Call, Op: api.Event{Kind: api.Break}}, api.ErrForm},
	}
	for i := range good {
		for _, first := range bad {
			l := slices.Clone(good)
			l[i] = first.act
			notShown(t, l, i, first.want)
			for j := i + 1; j < len(l); j++ {
				for _, second := range bad {
					two := slices.Clone(l)
					two[j] = second.act
					notShown(t, two, i, first.want)
				}
			}
		}
	}
}

// P11.3: so many acts as may be, and one more: that is told ahead of acts that may not be.
func TestShowSize(t *testing.T) {
	l := make([]api.Act, api.MaxSteps)
	for i := range l {
		l[i] = api.Act{Kind: api.All}
	}
	shown(t, l[:api.MaxSteps-1], strings.Repeat("all\n", api.MaxSteps-1))
	shown(t, l, strings.Repeat("all\n", api.MaxSteps))
	notShown(t, append(slices.Clone(l), api.Act{Kind: api.All}), 0, api.ErrSize)
	notShown(t, append(slices.Clone(l), api.Act{}), 0, api.ErrSize)
	notShown(t, make([]api.Act, api.MaxSteps+1), 0, api.ErrSize)
	notShown(t, make([]api.Act, 1000000), 0, api.ErrSize)
	l[len(l)-1].Keep = 1
	notShown(t, l, len(l)-1, api.ErrForm)
	l[7].Kind = 11
	notShown(t, l, 7, api.ErrForm)
}

// What comes of it: as many acts as may be with the longest lines that there are fit into a text.
func TestLongest(t *testing.T) {
	l := make([]api.Act, api.MaxSteps)
	for i := range l {
		l[i] = shapes()[9].full().act()
	}
	text, _, _ := lines.Show(l)
	if text != strings.Repeat("publish 4 3 3 1073741824 1000000\n", api.MaxSteps) {
		t.Errorf("Show of the longest acts: %q ..", brief(text))
	}
	read(t, text, l)
}

// wrong: lines that no act has.
func wrong() []string {
	l := []string{
		"", " ", "x", "0", "step", "step ", "step  1", " step 1", "step 1 ", "step 1 1", "step\t1", "step 1\r", "step 1\t",
		"step 01", "step 00", "step 0 ", "step -0", "step +1", "step -1", "step 1.0", "step 1e0", "step 0x1", "step 1_0", "step 5", "step ١", "step １",
		"step x", "step 1x", "step x1", "step \x001", "step 1\x00", "step \xff", "\xefstep 1", "\ufeffstep 1",
		"Step 1", "STEP 1", "stepp 1", "ste 1", "step1", "steps", "sstep 1", "step,1", "step 1;", "# all", "all #", "all all", "all step 1",
		"all ", " all", "all 0", "al", "alll", "ALL", "all\r", "all\x00", "all\v", "all\u0085", "all\u2028",
		"make", "make 0", "make 0 0 0", "make 4 0", "make 0 5", "make 00 0", "make 0  0", "make  0 0", "make 0 ", "make  0", "make 0,0",
		"move 3 4 0", "move 4 4", "move 3 5", "start", "start 5", "start 0 0",
		"crash 0", "crash 0 100001", "crash 5 0", "crash 0 0 0", "crash 0 007",
		"carry", "carry 1048577", "carry 0 0", "lose", "lose 1048577", "double", "double 1048577", "double 01048576",
		"call", "call 0 0", "call 0 0 2", "break 0 0", "break", "2 0 0",
		"publish 0 0 0 0", "publish 0 0 0 0 0 0", "publish 5 0 0 0 0", "publish 0 4 0 0 0", "publish 0 0 4 0 0", "publish 0 0 0 1073741825 0", "publish 0 0 0 0 1000001", "publish 0 0 0 -1 0", "publish 0 0 0  0", "publish 0 0  0 0 0",
		"receive 0", "receive 0 0 0", "receive 5 0", "receive 0 4", "receive", "receive 0 0 0 0 0",
		"ack 0 0 0", "ack 0 0", "ack 0 0 0 0 0", "ack 5 0 0 0", "ack 0 4 0 0", "ack 0 0 1048577 0", "ack 0 0 0 1073741825", "ack 0 0 -0 0",
	}
	for _, n := range []string{"2147483648", "4294967296", "4294967297", "9223372036854775807", "9223372036854775808", "18446744073709551616", "18446744073709551617", "340282366920938463463374607431768211457", strings.Repeat("9", 1000), strings.Repeat("0", 1000) + "1"} {
		l = append(l, "step "+n, "step -"+n, "carry "+n, "crash 0 "+n, "publish 0 0 0 "+n+" 0", "ack 0 0 0 "+n)
	}
	return l
}

// P11.4: lines that no act has: alone, and at each place among others; the first one is told, whatever is behind it.
func TestWrongLines(t *testing.T) {
	for _, s := range wrong() {
		notRead(t, s+"\n", 0, api.ErrForm)
		notRead(t, s+"\nall\n", 0, api.ErrForm)
		notRead(t, "all\n"+s+"\n", 1, api.ErrForm)
		notRead(t, "all\nstep 4\nreceive 0 0\n"+s+"\nall\n", 3, api.ErrForm)
		notRead(t, "all\n"+s+"\n\nall", 1, api.ErrForm)
		if s != "" {
			notRead(t, s, 0, api.ErrForm)
			notRead(t, "all\nall\n"+s, 2, api.ErrForm)
		}
	}
}

// P11.4: a text without lines; the line feed ends a line, begins none; a line without one is no act's, and counts as one.
func TestLineFeeds(t *testing.T) {
	all, step := api.Act{Kind: api.All}, api.Act{Kind: api.Step, Node: 1}
	read(t, "", nil)
	read(t, "all\n", []api.Act{all})
	read(t, "all\nstep 1\n", []api.Act{all, step})
	read(t, "step 1\nall\nall\n", []api.Act{step, all, all})
	notRead(t, "all", 0, api.ErrForm)
	notRead(t, "\n", 0, api.ErrForm)
	notRead(t, "\nall\n", 0, api.ErrForm)
	notRead(t, "all\n\n", 1, api.ErrForm)
	notRead(t, "all\n\nall\n", 1, api.ErrForm)
	notRead(t, "all\nall", 1, api.ErrForm)
	notRead(t, "all\r\nall\r\n", 0, api.ErrForm)
	notRead(t, "all\rall\r", 0, api.ErrForm)
	notRead(t, "all\nstep 1", 1, api.ErrForm)
	notRead(t, "all\nstep \n1\n", 1, api.ErrForm)
	notRead(t, "all\nstep 1\nall\n ", 3, api.ErrForm)
	for _, s := range shapes() {
		line := s.line(s.full())
		notRead(t, line[:len(line)-1], 0, api.ErrForm)
		notRead(t, line+line[:len(line)-1], 1, api.ErrForm)
	}
}

// P11.4: so many bytes as may be, and one more: that is told ahead of all else.
func TestReadSize(t *testing.T) {
	notRead(t, strings.Repeat("x", api.MaxText-1), 0, api.ErrForm)
	notRead(t, strings.Repeat("x", api.MaxText), 0, api.ErrForm)
	notRead(t, strings.Repeat("x", api.MaxText+1), 0, api.ErrSize)
	notRead(t, "all\n"+strings.Repeat(" ", api.MaxText-4), 1, api.ErrForm)
	notRead(t, "all\n"+strings.Repeat(" ", api.MaxText-3), 0, api.ErrSize)
	notRead(t, "step "+strings.Repeat("1", api.MaxText-6)+"\n", 0, api.ErrForm)
	notRead(t, "step "+strings.Repeat("0", api.MaxText-6)+"\n", 0, api.ErrForm)
	notRead(t, "publish"+strings.Repeat(" ", api.MaxText-8)+"\n", 0, api.ErrForm)
	notRead(t, strings.Repeat("\n", api.MaxText), 0, api.ErrForm)
	notRead(t, strings.Repeat("\n", api.MaxText+1), 0, api.ErrSize)
	notRead(t, strings.Repeat("all\n", api.MaxText/4), api.MaxSteps, api.ErrFull)
	notRead(t, strings.Repeat("all\n", api.MaxText/4+1), 0, api.ErrSize)
	notRead(t, strings.Repeat("all\n", 5*api.MaxText), 0, api.ErrSize)
}

// P11.4: so many lines as may be, and one more, whatever that is; a line ahead of it that is no act's is told first.
func TestReadFull(t *testing.T) {
	text := strings.Repeat("all\n", api.MaxSteps)
	if l, place, e := lines.Read(text); len(l) != api.MaxSteps || place != 0 || e != api.OK {
		t.Errorf("Read of MaxSteps lines: %d, %d, %v", len(l), place, e)
	}
	for _, more := range []string{"all\n", "\n", "x", " ", "step 9\n", "all", "all\nall\n", "all\nx"} {
		notRead(t, text+more, api.MaxSteps, api.ErrFull)
	}
	for _, place := range []int{0, 1, 77, api.MaxSteps - 1} {
		notRead(t, text[:4*place]+"x\n"+text[4*place:], place, api.ErrForm)
		notRead(t, text[:4*place]+"al\n"+text[4*place+4:], place, api.ErrForm)
	}
	notRead(t, text[:len(text)-1], api.MaxSteps-1, api.ErrForm)
	notRead(t, text[:len(text)-4]+"all", api.MaxSteps-1, api.ErrForm)
}

// P11.5: Calls are counted, others are not; none at all; the first act that may not be is told; no list is too long.
func TestCalls(t *testing.T) {
	counted := func(l []api.Act, want int, wantErrno api.Errno) {
		t.Helper()
		if n, e := lines.Calls(l); n != want || e != wantErrno {
			t.Errorf("Calls: %d, %v; want %d, %v", n, e, want, wantErrno)
		}
	}
	counted(nil, 0, api.OK)
	counted([]api.Act{}, 0, api.OK)
	var l []api.Act
	for _, s := range shapes() {
		l = append(l, s.full().act())
	}
	counted(l, 3, api.OK)
	counted(append(l, l...), 6, api.OK)
	counted(l[:9], 0, api.OK)
	counted(l[9:], 3, api.OK)
	form, far := api.Act{Kind: api.All, At: 1}, api.Act{Kind: api.Make, Queue: 4}
	counted(append(slices.Clone(l), form), 0, api.ErrForm)
	counted(append(slices.Clone(l), far), 0, api.ErrRange)
	counted(append(slices.Clone(l), far, form), 0, api.ErrRange)
	counted(append([]api.Act{form}, append(l, far)...), 0, api.ErrForm)
	counted([]api.Act{{Kind: api.Call, Op: api.Event{Kind: api.Break}}}, 0, api.ErrForm)
	long := slices.Repeat([]api.Act{l[9], l[0]}, 3*api.MaxSteps)
	counted(long, 3*api.MaxSteps, api.OK)
	long[len(long)-1] = far
	counted(long, 0, api.ErrRange)
}

// patterns of lines, one for each word.
var patterns = func() []*regexp.Regexp {
	var l []*regexp.Regexp
	for _, w := range shapes() {
		l = append(l, regexp.MustCompile("\\A"+w.word+strings.Repeat(" (0|[1-9][0-9]*)", len(w.has))+"\n\\z"))
	}
	return l
}()

// accepts: the act of a line, by a pattern and by numbers of any size; false: it is none's.
func accepts(s string) (api.Act, bool) {
	for i, w := range shapes() {
		found := patterns[i].FindStringSubmatch(s)
		if found == nil {
			continue
		}
		r := w.bare()
		for i, p := range w.has {
			n, _ := new(big.Int).SetString(found[i+1], 10)
			if n.Cmp(big.NewInt(int64(bound(p)))) > 0 {
				return api.Act{}, false
			}
			r[p] = int(n.Int64())
		}
		return r.act(), true
	}
	return api.Act{}, false
}

// readsAs: what the promises say of a text of few lines.
func readsAs(text string) ([]api.Act, int, api.Errno) {
	var l []api.Act
	for place, s := range strings.SplitAfter(text, "\n") {
		if s == "" { // behind the last line feed: no line
			break
		}
		a, ok := accepts(s)
		if !ok {
			return nil, place, api.ErrForm
		}
		l = append(l, a)
	}
	return l, 0, api.OK
}

// agrees: does Read answer what the pattern says, and is what it reads shown as it was?
func agrees(t *testing.T, text string) api.Errno {
	t.Helper()
	want, place, refused := readsAs(text)
	l, i, e := lines.Read(text)
	if !slices.Equal(l, want) || i != place || e != refused {
		t.Errorf("Read of %q: %v, %d, %v; want %v, %d, %v", text, l, i, e, want, place, refused)
	}
	if e == api.OK {
		shown(t, l, text)
	}
	return e
}

// P11.2, P11.4: each line with one byte left out, one put in or one changed, at each place: what is read is shown as it was, and all else is refused.
func TestNear(t *testing.T) {
	counts := map[api.Errno]int{}
	for _, s := range shapes() {
		for _, r := range []row{s.bare(), s.full()} {
			line := s.line(r)
			for i := range len(line) + 1 {
				for _, put := range []string{"", " ", "\n", "\r", "\t", "0", "1", "3", "9", "a", "e", "l", "-", "+", ".", "_", "\x00", "\x80", "\xff"} {
					counts[agrees(t, line[:i]+put+line[i:])]++
					if i < len(line) {
						counts[agrees(t, line[:i]+put+line[i+1:])]++
						counts[agrees(t, "all\n"+line[:i]+put+line[i+1:]+line)]++
					}
				}
			}
		}
	}
	if counts[api.OK] < 100 || counts[api.ErrForm] < 1000 {
		t.Errorf("so many were tried: %v", counts)
	}
}

// die: numbers that look drawn, the same each time.
type die uint64

func (d *die) n(most int) int {
	*d = *d*6364136223846793005 + 1442695040888963407
	return int(uint64(*d>>33) % uint64(most))
}

// row that may be.
func (d *die) row() (shape, row) {
	s := shapes()[d.n(len(shapes()))]
	r := s.bare()
	for _, p := range s.has {
		r[p] = d.n([]int{2, 11, bound(p) + 1}[d.n(3)]) % (bound(p) + 1)
	}
	return s, r
}

// P11.1 to P11.5: drawn acts, some with numbers that may not be, against the rule; what is shown is read.
func TestDrawn(t *testing.T) {
	d := die(11)
	counts := map[api.Errno]int{}
	for range 4000 {
		var l []api.Act
		text, place, calls, want := "", 0, 0, api.OK
		for i := range d.n(6) {
			_, r := d.row()
			for range d.n(9) / 7 {
				p := d.n(count)
				r[p] = []int{r[p] - 1, r[p] + 1, 0, 1, bound(p) + 1, r[p] + 1<<32, math.MinInt}[d.n(7)]
			}
			l = append(l, r.act())
			line, e := says(r)
			if want == api.OK && e != api.OK {
				place, want = i, e
			}
			text += line
			if r[kind] == 2 {
				calls++
			}
		}
		counts[want]++
		if want != api.OK {
			notShown(t, l, place, want)
			calls = 0
		} else {
			shown(t, l, text)
			read(t, text, l)
		}
		if n, e := lines.Calls(l); n != calls || e != want {
			t.Errorf("Calls of %v: %d, %v; want %d, %v", l, n, e, calls, want)
		}
	}
	if counts[api.OK] < 500 || counts[api.ErrForm] < 500 || counts[api.ErrRange] < 100 {
		t.Errorf("so many were drawn: %v", counts)
	}
}

// P11.4: drawn texts, with some bytes changed, against the pattern.
func TestDrawnTexts(t *testing.T) {
	d := die(111)
	counts := map[api.Errno]int{}
	bits := []string{"", " ", "\n", "0", "1", "7", "-", "all\n", "step ", "ack", "\x00", "\xc3"}
	for range 4000 {
		text := ""
		for range d.n(5) {
			s, r := d.row()
			text += s.line(r)
		}
		for range d.n(3) {
			i := d.n(len(text) + 1)
			text = text[:i] + bits[d.n(len(bits))] + text[min(len(text), i+d.n(2)):]
		}
		counts[agrees(t, text)]++
	}
	if counts[api.OK] < 500 || counts[api.ErrForm] < 500 {
		t.Errorf("so many were drawn: %v", counts)
	}
}

// Lists: what is handed in stays as it is, its spare room too; what comes out is new memory, and asked again each call answers the same. (P11.3 to P11.5)
func TestMemory(t *testing.T) {
	mark := api.Act{Kind: -7, Node: -7}
	room := []api.Act{{Kind: api.All}, {Kind: api.Step, Node: 2}, {Kind: api.Call, Op: api.Event{Kind: api.Receive}}, mark, mark}
	before := slices.Clone(room)
	for n := range 5 {
		l := room[:n]
		text, place, e := lines.Show(l)
		calls, f := lines.Calls(l)
		again, placeAgain, eAgain := lines.Show(l)
		callsAgain, fAgain := lines.Calls(l)
		if text != again || place != placeAgain || e != eAgain || calls != callsAgain || f != fAgain {
			t.Errorf("asked again, of %v other answers come", l)
		}
		if !slices.Equal(room, before) {
			t.Errorf("what was handed in became %v, was %v", room, before)
		}
	}
	text := "all\nstep 2\nreceive 0 0\n"
	first, _, _ := lines.Read(text)
	second, _, _ := lines.Read(text)
	first = first[:cap(first)]
	for i := range first {
		first[i] = mark
	}
	if !slices.Equal(second, before[:3]) {
		t.Errorf("two answers share memory: %v", second)
	}
	read(t, text, before[:3])
}

// Whatever an act is: no call panics, and each answers as the promises say. (P11.1 to P11.5)
func FuzzAct(f *testing.F) {
	f.Add(1, 4, 3, 0, 0, 0, 0, 0, 0, 0, 0)
	f.Add(2, 4, 3, 0, 0, 1, 3, 1<<30, 1000000, 0, 0)
	f.Add(2, 1, 0, 0, 0, 3, 0, 0, 0, 2, 3)
	f.Add(8, 1, 0, 0, 100001, 0, 0, 0, 0, 0, 0)
	f.Add(2, -1, 0, 1, 1, 4, 1, 1, 1, 1, 1)
	f.Fuzz(func(t *testing.T, a, b, c, d, e, f, g, h, i, j, k int) {
		answered(t, row{a, b, c, d, e, f, g, h, i, j, k})
	})
}

// Whatever a text is: Read does not panic, and answers as the promises say. (P11.2, P11.4)
func FuzzRead(f *testing.F) {
	for _, s := range shapes() {
		f.Add(s.line(s.full()))
		f.Add("all\n" + s.line(s.bare()) + "all")
	}
	for _, s := range wrong() {
		f.Add(s + "\n")
	}
	f.Fuzz(func(t *testing.T, text string) {
		if strings.Count(text, "\n") < api.MaxSteps && len(text) <= api.MaxText {
			agrees(t, text)
		}
	})
}
