package cluster_test

import (
	"fmt"
	"reflect"
	"slices"
	"strconv"
	"strings"
	"testing"

	"berthshift/api"
	"berthshift/cluster"
	"berthshift/directory"
	"berthshift/lines"
)

// acts of some lines, one blank and one comma apart.
func acts(t *testing.T, text string) []api.Act {
	t.Helper()
	if text == "" {
		return nil
	}
	l, place, e := lines.Read(strings.ReplaceAll(text, ", ", "\n") + "\n")
	if e != api.OK {
		t.Fatalf("the line %d of %q: %v", place, text, e)
	}
	return l
}

// again: a line, so many times.
func again(n int, line string) string { return strings.Join(slices.Repeat([]string{line}, n), ", ") }

// ran: the outcome of acts that may be.
func ran(t *testing.T, l []api.Act) api.Outcome {
	t.Helper()
	o, e := cluster.Run(l)
	if e != api.OK {
		t.Fatal(e)
	}
	return o
}

// run lines.
func run(t *testing.T, text string) api.Outcome {
	t.Helper()
	return ran(t, acts(t, text))
}

// same: are two outcomes the same? A list without elements may be nil or not.
func same(a, b api.Outcome) bool { return fmt.Sprint(a) == fmt.Sprint(b) }

// brief: the beginning and the end of what is told of something.
func brief(what ...any) string {
	s := fmt.Sprint(what...)
	if len(s) > 600 {
		s = s[:300] + " .. " + s[len(s)-300:]
	}
	return s
}

// leaves: some lines behind others change nothing.
func leaves(t *testing.T, text, more string) {
	t.Helper()
	if was, is := run(t, text), run(t, text+", "+more); !same(was, is) {
		t.Errorf("%s behind %s: %s, was %s", more, brief(text), brief(is), brief(was))
	}
}

// changes: some lines behind others change something.
func changes(t *testing.T, text, more string) {
	t.Helper()
	if was, is := run(t, text), run(t, text+", "+more); same(was, is) {
		t.Errorf("%s behind %s changes nothing: %s", more, brief(text), brief(was))
	}
}

// flies: are so many letters on their way behind some lines?
func flies(t *testing.T, text string, want int) {
	t.Helper()
	if o := run(t, text); o.Flying != want {
		t.Errorf("%s: %d letters are on their way, want %d", brief(text), o.Flying, want)
	}
}

// is: a node's berth for the queue 0 behind some lines.
func is(t *testing.T, text string, node int, want api.Berth) {
	t.Helper()
	if b := run(t, text).Berths[node][0]; fmt.Sprint(b) != fmt.Sprint(want) {
		t.Errorf("%s: the node %d has %s, want %s", brief(text), node, brief(b), brief(want))
	}
}

// at: the directory's place of the queue 0 behind some lines.
func at(t *testing.T, text string, want api.Place) {
	t.Helper()
	if p := run(t, text).Directory.Places[0]; p != want {
		t.Errorf("%s: %v, want %v", brief(text), p, want)
	}
}

// serves: what was served behind some lines.
func serves(t *testing.T, text string, want ...api.Served) {
	t.Helper()
	if o := run(t, text); !slices.Equal(o.Served, want) {
		t.Errorf("%s: served were %s, want %s", brief(text), brief(o.Served), brief(want))
	}
}

// tells: what was told behind some lines.
func tells(t *testing.T, text string, want ...api.Told) {
	t.Helper()
	if o := run(t, text); !slices.Equal(o.Told, want) {
		t.Errorf("%s: told were %s, want %s", brief(text), brief(o.Told), brief(want))
	}
}

// order of the calls that were told behind some lines.
func order(t *testing.T, text string, want ...int) {
	t.Helper()
	var got []int
	for _, x := range run(t, text).Told {
		got = append(got, x.Number)
	}
	if !slices.Equal(got, want) {
		t.Errorf("%s: told were %v, want %v", brief(text), got, want)
	}
}

func publish(producer, id, body int) api.Event {
	return api.Event{Kind: api.Publish, Producer: producer, Id: id, Body: body}
}

func ack(epoch, no int) api.Event {
	return api.Event{Kind: api.Ack, Handle: api.Handle{Epoch: epoch, No: no}}
}

var (
	receive = api.Event{Kind: api.Receive}
	end     = api.Event{Kind: api.Break}
)

// nowhere: the place of a queue of which nothing is told.
var nowhere = api.Place{Node: -1}

func active(epoch int, l ...api.Event) api.Berth {
	return api.Berth{Role: api.Active, Epoch: epoch, Events: l}
}

func draining(epoch, to, rounds int, l ...api.Event) api.Berth {
	return api.Berth{Role: api.Draining, Epoch: epoch, To: to, Rounds: rounds, Events: l}
}

func sealed(epoch, to int, l ...api.Event) api.Berth {
	return api.Berth{Role: api.Sealed, Epoch: epoch, To: to, Events: l}
}

func importing(epoch, from int, l ...api.Event) api.Berth {
	return api.Berth{Role: api.Importing, Epoch: epoch, From: from, Events: l}
}

func nobody(epoch int) api.Berth { return api.Berth{Epoch: epoch} }

func code(e api.Errno) api.Answer { return api.Answer{Code: e} }

func handed(epoch, no, body int) api.Answer {
	return api.Answer{Handle: api.Handle{Epoch: epoch, No: no}, Body: body}
}

// rounds: so many fair rounds.
func rounds(n int) string { return again(n, "step 0, step 1, step 2, step 3, step 4, all") }

// P12.1: an act that may not be is refused as Check says, wherever it stands, and the first one of several is.
func TestRefused(t *testing.T) {
	wrong := []api.Act{
		{}, {Kind: -1}, {Kind: 11}, {Kind: api.Call}, {Kind: api.Call, Op: end}, {Kind: api.Step, Node: 5}, {Kind: api.Step, Node: -1},
		{Kind: api.Make, Queue: 4}, {Kind: api.Move, Queue: -1}, {Kind: api.Crash, Keep: api.MaxBytes + 1}, {Kind: api.Carry, At: api.MaxAt + 1},
		{Kind: api.Call, Op: publish(4, 0, 0)}, {Kind: api.Call, Op: publish(0, 0, api.MaxBody+1)}, {Kind: api.Call, Op: ack(0, -1)},
		{Kind: api.All, Node: 1}, {Kind: api.Start, Keep: 1}, {Kind: api.Step, Op: receive}, {Kind: api.Call, Op: receive, At: 1},
	}
	right := acts(t, "make 0 0, publish 0 0 1 0 77, all, step 0, step 0, all")
	for i, a := range wrong {
		want := lines.Check(a)
		other := wrong[(i+5)%len(wrong)]
		for _, l := range [][]api.Act{{a}, {a, other}, append([]api.Act{a, other}, right...), append(slices.Clone(right), a, other)} {
			if o, e := cluster.Run(l); e != want || want == api.OK || !reflect.DeepEqual(o, api.Outcome{}) {
				t.Errorf("%v: %v, %v; want nothing, %v", l, o, e, want)
			}
		}
	}
}

// P12.1: MaxSteps acts are taken; one more is ErrSize, ahead of all else.
func TestSize(t *testing.T) {
	l := slices.Repeat([]api.Act{{Kind: api.Call, Op: receive}}, api.MaxSteps)
	if o := ran(t, l); o.Flying != api.MaxSteps || o.Calls != api.MaxSteps {
		t.Errorf("%d letters are on their way, of %d calls", o.Flying, o.Calls)
	}
	for _, first := range []api.Act{{}, {Kind: api.All}, {Kind: api.Step, Node: 7}} {
		l := append([]api.Act{first}, l...)
		if o, e := cluster.Run(l); e != api.ErrSize || !reflect.DeepEqual(o, api.Outcome{}) {
			t.Errorf("%d acts: %v", len(l), e)
		}
	}
}

// P12.7: at first all nodes are up, and nothing is anywhere.
func TestNothing(t *testing.T) {
	o := ran(t, nil)
	if o.Flying != 0 || o.Up != [5]bool{true, true, true, true, true} || o.Directory != directory.New() || o.Calls != 0 || len(o.Served)+len(o.Told) > 0 {
		t.Errorf("%v", o)
	}
	if len(o.Berths) != api.MaxNodes {
		t.Fatalf("%v", o.Berths)
	}
	for _, l := range o.Berths {
		if fmt.Sprint(l) != fmt.Sprint(make([]api.Berth, api.MaxQueues)) {
			t.Errorf("%v", l)
		}
	}
}

// P12.2, Make: the node has the queue at once, synced, and the directory has it; no other node and no other queue does.
func TestMake(t *testing.T) {
	for _, text := range []string{"make 2 3", "make 2 3, crash 3 0"} {
		o := run(t, text)
		for node, l := range o.Berths {
			for q, b := range l {
				want, place := nobody(0), nowhere
				if q == 2 {
					place = api.Place{Node: 3, Epoch: 1}
					if node == 3 {
						want = active(1)
					}
				}
				if fmt.Sprint(b) != fmt.Sprint(want) || o.Directory.Places[q] != place {
					t.Errorf("%q: the node %d has %v of the queue %d, which is at %v", text, node, b, q, o.Directory.Places[q])
				}
			}
		}
		if o.Flying != 0 || len(o.Served) > 0 {
			t.Errorf("%q: %v", text, o)
		}
	}
}

// P12.2, Make: nothing happens where there is such a queue, where the node is down, or has something on its tape that is not synced.
func TestNotMade(t *testing.T) {
	leaves(t, "make 2 3", "make 2 3")
	leaves(t, "make 2 3", "make 2 1")
	leaves(t, "make 2 3, crash 3 0", "make 2 3, make 2 0")
	leaves(t, "make 0 0, move 0 1, "+rounds(40), "make 0 0, make 0 1, make 0 2")
	leaves(t, "crash 3 0", "make 2 3")
	changes(t, "crash 3 0, start 3", "make 2 3")
	written := "make 0 0, publish 0 0 0 0 5, all, step 0"
	leaves(t, written, "make 1 0")
	changes(t, written, "make 1 1")
	changes(t, written+", step 0", "make 1 0")
}

// P12.2, Call: each is a letter to its node, and they are numbered from 0 on.
func TestCall(t *testing.T) {
	text := "receive 0 0, receive 4 1, ack 2 3 0 0, publish 1 2 3 4 5"
	if o := run(t, text); o.Flying != 4 || o.Calls != 4 {
		t.Errorf("%v", o)
	}
	for node, number := range []int{0, 3, 2, -1, 1} {
		text := text + ", all, step " + strconv.Itoa(node) + ", all"
		if number < 0 {
			tells(t, text)
			continue
		}
		tells(t, text, api.Told{Number: number, Answer: code(api.ErrNone), Place: nowhere})
	}
}

// three answers to calls, on their way to clients.
const three = "receive 0 0, receive 0 1, receive 0 2, all, step 0"

// P12.2, Carry: places are counted round and round, from the letter on that was sent first.
func TestCarry(t *testing.T) {
	flies(t, three, 3)
	for n := range 10 {
		text := three + ", carry " + strconv.Itoa(n)
		order(t, text, n%3)
		flies(t, text, 2)
	}
	order(t, three+", carry 1048576", 1) // 2 to the power of 20 is one more than a multiple of 3
	order(t, three+", carry 1, carry 1, carry 1", 1, 2, 0)
	order(t, three+", carry 1, carry 2, carry 7", 1, 0, 2)
	order(t, "receive 0 0, "+three+", all", 0, 1, 2, 3)
}

// P12.2, Lose: the letter does not come, and is not on its way any more.
func TestLose(t *testing.T) {
	for n, left := range [][]int{{1, 2}, {0, 2}, {0, 1}, {1, 2}, {0, 2}} {
		text := three + ", lose " + strconv.Itoa(n)
		order(t, text)
		flies(t, text, 2)
		order(t, text+", all", left...)
	}
	leaves(t, "receive 0 0, lose 3", "all, step 0, all")
}

// P12.2, Double: the letter comes, and stays on its way at its place.
func TestDouble(t *testing.T) {
	for n := range 7 {
		text := three + ", double " + strconv.Itoa(n)
		order(t, text, n%3)
		flies(t, text, 3)
		order(t, text+", all", n%3, 0, 1, 2)
	}
	order(t, "receive 0 0, double 0, double 0, all, step 0, all", 0, 0, 0)
	serves(t, "make 0 0, publish 0 0 1 0 7, double 0, all, "+again(3, "step 0"),
		api.Served{Epoch: 1, Op: publish(1, 0, 7)}, api.Served{Epoch: 1, Op: publish(1, 0, 7)})
}

// P12.2: with no letter on its way nothing comes, is lost or doubled.
func TestNoLetter(t *testing.T) {
	for _, text := range []string{"make 0 0", three + ", all"} {
		leaves(t, text, "carry 0, carry 5, lose 0, lose 3, double 0, double 1048576, all")
	}
}

// goes: the acts of a move of the queue 0 from the node 0 to the node 2, up to a piece of it. The queue has been made there.
func goes(to int) string {
	pieces := []string{
		"move 0 2",
		"step 0, all",         // the target is told
		"step 2",              // it writes a Begin
		"step 2, all",         // and says that it has nothing
		"step 0",              // the source writes a Seal
		"step 0, all",         // and sends the last part
		"step 2",              // the target writes an Activate
		"step 2",              // and is active
		"step 2",              // it tells the directory
		"all",                 // which flips
		"all, step 2",         // and tells it
		"step 0, all",         // the source asks the directory
		"all, step 0, step 0", // and forgets
	}
	return strings.Join(pieces[:to], ", ")
}

// P12.2, All: what letters cause stays on its way.
func TestAll(t *testing.T) {
	asks := "make 0 0, " + goes(6) + ", step 0"
	flies(t, asks, 2) // to the target and to the directory
	flies(t, asks+", all", 1)
	changes(t, asks+", all", "all")
	flies(t, asks+", all, all", 0)
	flies(t, asks+", carry 1", 2)
	flies(t, asks+", double 1", 3)
}

// P12.2, Crash: the node is down, and lost what it remembers and what waits; down as it is it does nothing, and letters to it are lost.
func TestCrash(t *testing.T) {
	text := "make 0 0, publish 0 0 1 0 77, all, crash 0 100000"
	o := run(t, text)
	if o.Up != [5]bool{false, true, true, true, true} || fmt.Sprint(o.Berths[0][0]) != fmt.Sprint(active(1)) {
		t.Errorf("%v", o)
	}
	leaves(t, text, "crash 0 0, crash 0 100000, step 0, step 0, move 0 1, make 1 0, all")
	changes(t, text, "start 0")
	leaves(t, text+", start 0", "start 0, start 1, step 0, step 0, all, step 0")
	flies(t, text+", publish 0 0 1 0 77", 1)
	serves(t, text+", publish 0 0 1 0 77, all, start 0, step 0, step 0", api.Served{Epoch: 1, Op: end, Number: -1})
}

// P12.2, P12.4: what the directory told is known only since the node is up.
func TestCrashForgets(t *testing.T) {
	moved := "make 0 0, " + goes(13)
	asked := ", receive 0 0, all, step 0, all"
	tells(t, moved+asked, api.Told{Answer: code(api.ErrNone), Place: api.Place{Node: 2, Epoch: 2}})
	tells(t, moved+", crash 0 0, start 0"+asked, api.Told{Answer: code(api.ErrNone), Place: nowhere})
}

// P12.2, Crash: of what was not synced Keep bytes stay: a History has 46 of them.
func TestKeep(t *testing.T) {
	for keep := range 60 {
		text := "make 0 0, publish 0 0 1 0 77, publish 0 0 1 1 78, all, step 0, step 0, step 0, crash 0 " + strconv.Itoa(keep)
		want := active(1, publish(1, 0, 77))
		if keep >= 46 {
			want = active(1, publish(1, 0, 77), publish(1, 1, 78))
		}
		is(t, text, 0, want)
		want.Events = append(want.Events, end)
		is(t, text+", start 0", 0, want)
		want.Events = append(want.Events, publish(1, 2, 79))
		is(t, text+", start 0, publish 0 0 1 2 79, all, step 0, step 0, crash 0 0", 0, want) // behind what was torn more is written
	}
}

// P12.2, Start: who serves is woken, with a Break; of the others nothing changes; a move that was not sealed is off.
func TestStart(t *testing.T) {
	made := "make 0 0, publish 0 0 1 0 77, all, step 0, step 0"
	is(t, made+", crash 0 0", 0, active(1, publish(1, 0, 77)))
	is(t, made+", crash 0 0, start 0", 0, active(1, publish(1, 0, 77), end))
	is(t, made+", move 0 2, crash 0 0", 0, active(1, publish(1, 0, 77)))
	is(t, made+", move 0 2, crash 0 0, start 0", 0, active(1, publish(1, 0, 77), end))
	is(t, made+", start 0", 0, active(1, publish(1, 0, 77)))
	is(t, "make 0 0, crash 0 0, start 0, crash 0 0, start 0", 0, active(1, end, end))
	is(t, "make 0 0, "+goes(4)+", crash 2 0, start 2", 2, importing(2, 0))
	is(t, "make 0 0, "+goes(6)+", crash 0 0, start 0", 0, sealed(1, 2))
	is(t, "make 0 0, "+goes(13)+", crash 0 0, start 0", 0, nobody(1))
	is(t, "make 0 0, "+goes(8)+", crash 2 0, start 2", 2, active(2, end, end))
	changes(t, "make 0 0, crash 0 0, start 0", "crash 0 0")
	is(t, "make 0 0, crash 0 0, start 0, crash 0 0", 0, active(1, end)) // the Break is synced
}

// P12.2, Move: nothing happens where there is no such queue, where its node is down, or the same one, or on the way, or not active yet at the directory's epoch.
func TestMove(t *testing.T) {
	leaves(t, "make 1 1", "move 0 0, move 0 1, move 3 2")
	for to := range 5 {
		text := "make 0 3, move 0 " + strconv.Itoa(to)
		if to == 3 {
			is(t, text, 3, active(1))
			continue
		}
		is(t, text, 3, draining(1, to, 0))
		flies(t, text, 0)
	}
	leaves(t, "make 0 0, crash 0 0", "move 0 1")
	leaves(t, "make 0 0, move 0 2", "move 0 1, move 0 2, move 0 0")
	for n := 1; n < 10; n++ { // till the directory flips
		leaves(t, "make 0 0, "+goes(n), "move 0 1, move 0 0, move 0 2")
	}
	is(t, "make 0 0, "+goes(10)+", move 0 2", 2, active(2, end))
	is(t, "make 0 0, "+goes(10)+", move 0 0", 2, draining(2, 0, 0, end))
	is(t, "make 0 0, "+goes(10)+", move 0 4", 2, draining(2, 4, 0, end))
	leaves(t, "make 0 0, "+goes(10)+", crash 2 0", "move 0 1")
}

// P12.2: what is written when a move begins goes with it.
func TestMoveWritten(t *testing.T) {
	text := "make 0 0, publish 0 0 1 0 77, all, step 0, move 0 2"
	is(t, text, 0, draining(1, 2, 0))
	is(t, text+", step 0", 0, draining(1, 2, 0, publish(1, 0, 77)))
	serves(t, text+", step 0", api.Served{Epoch: 1, Op: publish(1, 0, 77)})
	is(t, text+", "+rounds(40), 2, active(2, publish(1, 0, 77), end))
}

// P12.3: a piece syncs what was written, and does what it was written for; else letters are taken till something is written.
func TestPiece(t *testing.T) {
	text := "make 0 0, publish 0 0 1 0 77, publish 0 0 1 1 78, all"
	one, two := api.Served{Epoch: 1, Op: publish(1, 0, 77)}, api.Served{Epoch: 1, Op: publish(1, 1, 78), Number: 1}
	serves(t, text+", step 0")
	flies(t, text+", step 0", 0)
	serves(t, text+", step 0, step 0", one)
	flies(t, text+", step 0, step 0", 1)
	serves(t, text+", step 0, step 0, step 0", one)
	flies(t, text+", step 0, step 0, step 0", 1)
	serves(t, text+", step 0, step 0, step 0, step 0", one, two)
	flies(t, text+", step 0, step 0, step 0, step 0", 2)
	leaves(t, text+", step 0, step 0, step 0, step 0", "step 0, step 1, step 2")
	leaves(t, text, "step 1, step 2, step 3, step 4")
}

// P12.3: for letters for which nothing is written one piece is enough, and one that writes ends it.
func TestPieceOfMany(t *testing.T) {
	text := "make 0 0, receive 0 0, ack 0 0 0 0, receive 0 1, publish 0 0 1 0 77, receive 0 0, receive 0 0, all"
	flies(t, text+", step 0", 3)
	flies(t, text+", step 0, step 0", 4)
	flies(t, text+", step 0, step 0, step 0", 4)
	flies(t, text+", step 0, step 0, step 0, step 0, step 0", 6)
	order(t, text+", "+again(5, "step 0")+", all", 0, 1, 2, 3, 4, 5)
}

// P12.3: letters wait in the order in which they come.
func TestWaiting(t *testing.T) {
	order(t, "receive 0 0, receive 0 1, receive 0 2, carry 2, carry 0, carry 0, step 0, all", 2, 0, 1)
	order(t, "receive 0 0, carry 0, receive 0 1, carry 0, step 0, all", 0, 1)
}

// P12.3: what a node has to send of its own it sends where no letter waits and nothing was written, for one queue, by turns.
func TestTurns(t *testing.T) {
	two := "make 0 0, make 3 0, make 1 0, move 0 1, move 3 2"
	flies(t, two, 0)
	flies(t, two+", step 0", 1)
	for n, target := range []int{1, 2, 1, 2} { // who begins to import: the target of the queue whose turn it was
		text := two + ", " + strings.Repeat("step 0, lose 0, ", n) + "step 0, all, step 1, step 1, step 2, step 2"
		o := run(t, text)
		if got := o.Berths[target][[]int{0, 3}[target-1]]; got.Role != api.Importing {
			t.Errorf("%q: %v", text, got)
		}
		if o.Flying != 1 {
			t.Errorf("%q: %d letters", text, o.Flying)
		}
	}
	waits := "make 0 0, move 0 1, receive 0 0, publish 0 0 1 0 7, all"
	flies(t, waits+", step 0", 1)                               // the answer; then something is written
	flies(t, waits+", step 0, step 0", 2)                       // the other answer
	flies(t, waits+", step 0, step 0, step 0", 3)               // its own
	flies(t, "make 0 0, move 0 1, receive 0 0, all, step 0", 2) // the answer, and its own
	flies(t, "make 0 0, step 0, crash 0 0, start 0, step 0", 0) // the directory knows what was made
}

// P12.3, P12.5: what each piece of a move does, and what can be seen of it.
func TestPieces(t *testing.T) {
	states := []struct {
		source, target api.Berth
		place          api.Place
	}{
		{active(1), nobody(0), api.Place{Node: 0, Epoch: 1}},
		{draining(1, 2, 0), nobody(0), api.Place{Node: 0, Epoch: 1}},
		{draining(1, 2, 0), nobody(0), api.Place{Node: 0, Epoch: 1}},
		{draining(1, 2, 0), nobody(0), api.Place{Node: 0, Epoch: 1}},
		{draining(1, 2, 0), importing(2, 0), api.Place{Node: 0, Epoch: 1}},
		{draining(1, 2, 0), importing(2, 0), api.Place{Node: 0, Epoch: 1}},
		{sealed(1, 2), importing(2, 0), api.Place{Node: 0, Epoch: 1}},
		{sealed(1, 2), importing(2, 0), api.Place{Node: 0, Epoch: 1}},
		{sealed(1, 2), active(2, end), api.Place{Node: 0, Epoch: 1}},
		{sealed(1, 2), active(2, end), api.Place{Node: 0, Epoch: 1}},
		{sealed(1, 2), active(2, end), api.Place{Node: 2, Epoch: 2}},
		{sealed(1, 2), active(2, end), api.Place{Node: 2, Epoch: 2}},
		{sealed(1, 2), active(2, end), api.Place{Node: 2, Epoch: 2}},
		{nobody(1), active(2, end), api.Place{Node: 2, Epoch: 2}},
	}
	for n, want := range states {
		text := strings.TrimSuffix("make 0 0, "+goes(n), ", ")
		is(t, text, 0, want.source)
		is(t, text, 2, want.target)
		at(t, text, want.place)
		if n >= 8 {
			serves(t, text, api.Served{Node: 2, Epoch: 2, Op: end, Number: -1})
		} else {
			serves(t, text)
		}
	}
	leaves(t, "make 0 0, "+goes(13)+", "+rounds(2), rounds(3))
}

// P12.3: the directory answers at once; it flips a queue once, however often it is told, and tells where the queue is in any case.
func TestDirectory(t *testing.T) {
	tells := "make 0 0, " + goes(9)
	at(t, tells, api.Place{Node: 0, Epoch: 1})
	flies(t, tells, 1)
	for _, text := range []string{"all", "carry 0", "double 0", "double 0, double 0", "double 0, carry 0"} {
		at(t, tells+", "+text, api.Place{Node: 2, Epoch: 2})
	}
	flies(t, tells+", all", 1)
	flies(t, tells+", double 0", 2)
	flies(t, tells+", double 0, double 0", 3)
	at(t, tells+", lose 0", api.Place{Node: 0, Epoch: 1})
	at(t, tells+", lose 0, step 2, all", api.Place{Node: 2, Epoch: 2}) // it tells it till it is told
	flies(t, tells+", all, step 2", 2)
	flies(t, tells+", all, all, step 2", 0)
	flies(t, tells+", all, all, step 2, crash 2 0, start 2, step 2", 1) // what it was told is forgotten
}

// P12.3: what was told late does not come back: of several places a node knows the one of the greatest epoch.
func TestLate(t *testing.T) {
	early := "make 0 0, " + goes(6) + ", step 0, lose 0, all" // on its way: the place where the queue still is
	flies(t, early, 1)
	late := early + ", " + strings.Join([]string{
		"step 2, step 2, step 2, carry 1, lose 1", // the directory flips
		"step 0, lose 1, carry 1",                 // and tells the source
		"carry 1, step 0, step 0", "carry 0, step 0",
	}, ", ")
	is(t, late, 0, nobody(1))
	flies(t, late, 0)
	tells(t, late+", receive 0 0, all, step 0, all", api.Told{Answer: code(api.ErrNone), Place: api.Place{Node: 2, Epoch: 2}})
}

// P12.4: who serves answers what the queue does; each answer is served, and told without a place.
func TestServe(t *testing.T) {
	for _, begin := range []string{"make 0 0", "make 0 0, move 0 2"} {
		text := begin + ", receive 0 0, publish 0 0 1 3 77, receive 0 0, ack 0 0 0 0, ack 0 0 0 0, ack 0 0 1 0, publish 0 0 1 3 78, all, " + again(9, "step 0")
		want := []api.Served{
			{Op: receive, Answer: code(api.ErrEmpty)},
			{Op: publish(1, 3, 77)},
			{Op: receive, Answer: handed(0, 0, 77)},
			{Op: ack(0, 0)},
			{Op: ack(0, 0), Answer: code(api.ErrNone)},
			{Op: ack(1, 0), Answer: code(api.ErrStale)},
			{Op: publish(1, 3, 78)},
		}
		var told []api.Told
		for i := range want {
			want[i].Epoch, want[i].Number = 1, i
			told = append(told, api.Told{Number: i, Answer: want[i].Answer, Place: nowhere})
		}
		serves(t, text, want...)
		tells(t, text+", all", told...)
	}
}

// P12.4: other nodes answer as Serve does, with the place that the directory told them; nothing of it is served.
func TestNotServed(t *testing.T) {
	asks := func(node string) string { return ", receive " + node + " 0, all, step " + node + ", all" }
	none, moving := code(api.ErrNone), code(api.ErrMoving)
	for _, text := range []string{"all", "make 1 0", "make 0 1", "make 0 0, crash 0 0, start 0, crash 0 0"} {
		tells(t, text+asks("2"), api.Told{Answer: none, Place: nowhere})
	}
	tells(t, "make 0 0, "+goes(4)+asks("2"), api.Told{Answer: none, Place: nowhere})
	tells(t, "make 0 0, "+goes(6)+asks("0"), api.Told{Answer: moving, Place: nowhere})
	tells(t, "make 0 0, "+goes(6)+", step 0, all, all"+asks("0"), api.Told{Answer: moving, Place: api.Place{Node: 0, Epoch: 1}})
	tells(t, "make 0 0, "+goes(12)+", receive 0 0, carry 1, step 0, carry 1", api.Told{Answer: moving, Place: nowhere}) // what it will be told is on its way
	tells(t, "make 0 0, "+goes(13)+asks("0"), api.Told{Answer: none, Place: api.Place{Node: 2, Epoch: 2}})
	tells(t, "make 0 0, "+goes(13)+asks("1"), api.Told{Answer: none, Place: nowhere})
	tells(t, "make 0 0, "+goes(13)+asks("2"), api.Told{Answer: code(api.ErrEmpty), Place: nowhere})
	serves(t, "make 0 0, "+goes(6)+asks("0")+asks("2")+asks("1"))
}

// cycle: the lines of n events of a queue at the node 0, one behind the other: a message is published, received and acked, and the next one.
func cycle(q, n int) string {
	var l []string
	for i := range n {
		no := strconv.Itoa(i / 3)
		l = append(l, []string{"publish 0 " + strconv.Itoa(q) + " 0 " + no + " 5", "receive 0 " + strconv.Itoa(q), "ack 0 " + strconv.Itoa(q) + " 0 " + no}[i%3])
	}
	return strings.Join(l, ", ") + ", all, " + again(2*n, "step 0")
}

// last of what was served.
func last(t *testing.T, text string) api.Served {
	t.Helper()
	l := run(t, text).Served
	if len(l) == 0 {
		t.Fatalf("%s: nothing was served", brief(text))
	}
	return l[len(l)-1]
}

// P12.4: a tape is full to the last byte: four Creates and 2172 Histories have 100000. What makes no event is answered all the same.
func TestTapeFull(t *testing.T) {
	text := "make 0 0, make 1 0, make 2 0, make 3 0, " + cycle(0, 1200) + ", " + cycle(1, 971)
	one := text + ", publish 0 2 0 0 5, all, step 0, step 0"
	if s := last(t, one); s.Queue != 2 || s.Answer != (api.Answer{}) {
		t.Errorf("the last event that has room: %v", s)
	}
	for _, more := range []string{", publish 0 3 0 0 5", ", receive 0 2", ", publish 0 2 0 1 5"} {
		more := one + more + ", all, step 0"
		if s := last(t, more); s.Answer != code(api.ErrFull) || s.Number != 2172 || s.Epoch != 1 {
			t.Errorf("there is no room: %v", s)
		}
		if o := run(t, more+", all"); o.Told[len(o.Told)-1] != (api.Told{Number: 2172, Answer: code(api.ErrFull), Place: nowhere}) {
			t.Errorf("there is no room: %v", o.Told[len(o.Told)-1])
		}
	}
	if s := last(t, one+", publish 0 2 0 0 6, all, step 0"); s.Answer != (api.Answer{}) {
		t.Errorf("an id that was taken: %v", s)
	}
	if s := last(t, one+", receive 0 3, all, step 0"); s.Answer != code(api.ErrEmpty) {
		t.Errorf("nothing is ready: %v", s)
	}
}

// P12.2: where the tape has no room for a Create, no queue is made; where it has just the room, one is.
func TestNoRoomToMake(t *testing.T) {
	text := "make 0 0, make 1 0, " + cycle(0, 1200) + ", " + cycle(1, 972)
	if s := last(t, text+", publish 0 1 0 999 5, all, step 0"); s.Answer != code(api.ErrFull) { // 44 bytes are left
		t.Errorf("%v", s)
	}
	two := text + ", make 2 0, make 3 0"
	if o := run(t, two); o.Berths[0][2].Role != api.Active || o.Berths[0][3].Role != api.Active || o.Directory.Places[3].Node != 0 {
		t.Errorf("%v", o.Directory)
	}
	gone := "make 0 0, make 1 0, " + cycle(0, 173) + ", move 0 1, " + rounds(250) + ", " + cycle(1, 1999)
	if o := run(t, gone); o.Directory.Places[0] != (api.Place{Node: 1, Epoch: 2}) || o.Berths[0][0].Role != api.Nobody || len(o.Berths[0][1].Events) != 1999 {
		t.Fatalf("%v", o.Directory)
	}
	leaves(t, gone, "make 2 0") // a Seal and a Forget have as many bytes as two Creates
	changes(t, gone, "make 2 1")
}

// P12.2, P12.7: where the tape has no room for the Breaks the node stays down, with the berths that its tape makes.
func TestNoRoomToStart(t *testing.T) {
	text := "make 0 0, make 1 0, " + cycle(0, 1200) + ", " + cycle(1, 970)
	for n, up := range []bool{true, false} { // two Breaks have 92 bytes
		text := text + strings.Repeat(", publish 0 1 3 0 9, all, step 0, step 0", n) + ", crash 0 0"
		o := run(t, text+", start 0")
		if o.Up[0] != up || len(o.Served) != 2170+n+2*(1-n) {
			t.Errorf("%v, %d served", o.Up, len(o.Served))
		}
		if !up {
			leaves(t, text, "start 0")
			leaves(t, text, "start 0, start 0, step 0, make 2 0, move 0 1, step 0")
		}
	}
}

// P12.2: where a berth has no room for the Break the node stays down.
func TestNoRoomToWake(t *testing.T) {
	text := "make 0 0, make 1 0, " + cycle(0, 1999)
	full := text + ", publish 0 0 3 0 9, all, step 0"
	if s := last(t, full); s.Answer != code(api.ErrFull) { // the last place is kept
		t.Errorf("%v", s)
	}
	if o := run(t, full+", crash 0 0, start 0"); !o.Up[0] || len(o.Berths[0][0].Events) != api.MaxEvents {
		t.Errorf("%v, %d events", o.Up, len(o.Berths[0][0].Events))
	}
	twice := full + ", crash 0 0, start 0, crash 0 0"
	leaves(t, twice, "start 0")
	if o := run(t, twice+", start 0"); o.Up[0] || len(o.Berths[0][0].Events) != api.MaxEvents || fmt.Sprint(o.Berths[0][1]) != fmt.Sprint(active(1, end)) {
		t.Errorf("%v, %v", o.Up, o.Berths[0][1])
	}
	leaves(t, twice, "start 0, start 0, step 0, make 2 0, move 1 1, step 0")
	if o := run(t, twice+", all, start 0, receive 0 1, all, start 0, step 0, all"); len(o.Told) != 2000 || o.Flying != 0 {
		t.Errorf("%d were told", len(o.Told))
	}
}

// filled: the queue 0 at the node 0 with n messages that were published, and the events that these are.
func filled(n int) (string, []api.Event) {
	var text strings.Builder
	var l []api.Event
	for i := range n {
		l = append(l, publish(1, i, 100+i))
		fmt.Fprintf(&text, ", publish 0 0 1 %d %d", i, 100+i)
	}
	return "make 0 0" + text.String() + ", all, " + again(2*n+1, "step 0") + ", all", l
}

// P12.5: events come to the target chunk by chunk, and stand on its tape ahead of its next letter; the source seals when the target has all of them, or behind enough rounds, ahead of the last part.
func TestChunks(t *testing.T) {
	text, l := filled(7)
	text += ", move 0 2, step 0, all, step 2, step 2, all" // on its way: that the target has nothing
	for _, x := range []struct{ rounds, had, have int }{{1, 0, 3}, {2, 3, 6}, {3, 6, 7}} {
		text += ", step 0, lose 1, all, step 2" // what the source has to send of its own is lost
		is(t, text, 0, draining(1, 2, x.rounds, l...))
		is(t, text, 2, importing(2, 0, l[:x.had]...))
		text += ", step 2, all"
		is(t, text, 2, importing(2, 0, l[:x.have]...))
		is(t, text+", crash 2 0", 2, importing(2, 0, l[:x.have]...))
	}
	text += ", step 0" // the Seal is written
	is(t, text, 0, draining(1, 2, 3, l...))
	flies(t, text, 0)
	text += ", step 0"
	is(t, text, 0, sealed(1, 2, l...))
	is(t, text+", crash 0 0", 0, sealed(1, 2, l...))
	text += ", all, step 2"
	is(t, text, 2, importing(2, 0, l...))
	is(t, text+", step 2", 2, active(2, append(slices.Clone(l), end)...))
}

// P12.5: a source that is not caught up seals behind MaxRounds all the same; it goes on sending parts, and the last one makes the target active.
func TestRounds(t *testing.T) {
	text, l := filled(20)
	text += ", move 0 2, step 0, all, step 2, step 2, all"
	piece := ", step 0, lose 1, all, step 2, step 2, all"
	for n := range api.MaxRounds {
		text += piece
		is(t, text, 0, draining(1, 2, n+1, l...))
		is(t, text, 2, importing(2, 0, l[:3*n+3]...))
	}
	text += ", publish 0 0 1 20 120, carry 0, step 0" // the Seal is written; what came meanwhile waits
	text += ", step 0"
	is(t, text, 0, sealed(1, 2, l...))
	serves(t, text, run(t, text).Served[:20]...)
	text += ", all, step 2, step 2, all"
	is(t, text, 2, importing(2, 0, l[:15]...))
	text += ", step 0"
	tells(t, text+", carry 0", append(run(t, text).Told, api.Told{Number: 20, Answer: code(api.ErrMoving), Place: nowhere})...)
	text += ", all, step 2, step 2, all"
	is(t, text, 2, importing(2, 0, l[:18]...))
	text += ", step 0, all, step 2, step 2"
	is(t, text, 2, active(2, append(slices.Clone(l), end)...))
}

// P12.5: events that come while a source is draining go with the others; behind the move the target serves what the source would.
func TestServedMeanwhile(t *testing.T) {
	text, _ := filled(2)
	text += ", receive 0 0, all, step 0, step 0, move 0 2, step 0, receive 0 0, publish 0 0 2 0 9, all, step 0, step 0, step 2, step 0, step 0, step 2, all, " + rounds(60)
	is(t, text, 0, nobody(1))
	is(t, text, 2, active(2, publish(1, 0, 100), publish(1, 1, 101), receive, receive, publish(2, 0, 9), end))
	text += ", ack 2 0 0 0, receive 2 0, ack 2 0 1 0, receive 2 0, receive 2 0, receive 2 0, all, " + again(10, "step 2")
	o := run(t, text)
	want := []api.Answer{code(api.ErrStale), handed(1, 0, 100), {}, handed(1, 1, 101), handed(1, 2, 9), code(api.ErrEmpty)}
	for i, a := range want {
		if s := o.Served[len(o.Served)-len(want)+i]; s.Answer != a || s.Node != 2 || s.Epoch != 2 {
			t.Errorf("%v, want %v", s, a)
		}
	}
}

// P12.5: letters of a move that are lost are sent again, and those that come late, twice or for another move do nothing.
func TestLostLetters(t *testing.T) {
	text, l := filled(7)
	text += ", move 0 2"
	for n := range 12 {
		lost := text + ", " + again(n, "step 0, step 2, all") + ", step 0, step 2" + strings.Repeat(", lose 0", 4) + ", " + rounds(60)
		lost = strings.ReplaceAll(lost, ", , ", ", ")
		is(t, lost, 2, active(2, append(slices.Clone(l), end)...))
		is(t, lost, 0, nobody(1))
		at(t, lost, api.Place{Node: 2, Epoch: 2})
		flies(t, lost, 0)
	}
}

// P12.5: a move that is off by a crash can go elsewhere; who was to get the queue keeps what it has, and is told nothing.
func TestOff(t *testing.T) {
	text, l := filled(4)
	off := text + ", move 0 2, step 0, all, step 2, step 2, all, step 0, crash 0 0, all, step 2, step 2, start 0"
	is(t, off, 0, active(1, append(slices.Clone(l), end)...))
	is(t, off, 2, importing(2, 0, l[:3]...))
	elsewhere := off + ", move 0 3, " + rounds(60)
	at(t, elsewhere, api.Place{Node: 3, Epoch: 2})
	is(t, elsewhere, 2, importing(2, 0, l[:3]...))
	same := off + ", move 0 2, " + rounds(60)
	is(t, same, 2, active(2, append(slices.Clone(l), end, end)...))
	back := elsewhere + ", move 0 2, " + rounds(60)
	is(t, back, 2, active(3, append(slices.Clone(l), end, end, end)...))
	home := back + ", move 0 0, " + rounds(60)
	is(t, home, 0, active(4, append(slices.Clone(l), end, end, end, end)...))
}

// P12.5: what a target says is of one move: late, from a target that it is not any more, or of another epoch, it neither seals nor counts as a round.
func TestStale(t *testing.T) {
	text, l := filled(4)
	off := text + ", move 0 2, step 0, all, step 2, step 2, all, step 0, crash 0 0, all, step 2, step 2, start 0"
	flies(t, off, 1) // that the node 2 has three events
	is(t, off+", move 0 3, all, step 0", 0, draining(1, 3, 0, append(slices.Clone(l), end)...))
	is(t, off+", move 0 2, all, step 0", 0, draining(1, 2, 1, append(slices.Clone(l), end)...))
	early := "make 0 0, " + strings.TrimSuffix(goes(4), ", all") + ", double 0" // what the target says stays on its way, ahead of all others
	there := ", step 0, step 0, carry 1, step 2, step 2, step 2, carry 1, carry 1, step 2, step 0, lose 1, carry 1, carry 1, step 0, step 0"
	back := ", move 0 0, step 2, carry 1, step 0, step 0, carry 1, step 2, lose 2, carry 1, step 0, step 0, carry 1, step 2, step 2, carry 1, step 0, step 0, step 0, carry 1, carry 1, step 0"
	is(t, early+there, 0, nobody(1))
	at(t, early+there+back, api.Place{Node: 0, Epoch: 3})
	flies(t, early+there+back, 1)
	is(t, early+there+back+", move 0 2, all, step 0", 0, draining(3, 2, 0, end, end))
}

// P12.3: letters do not pile up while a great queue moves, however often the source tells its target that it is to come.
func TestFewLetters(t *testing.T) {
	text, _ := filled(200)
	for n := range 20 {
		if o := run(t, text+", move 0 2, "+rounds(1+10*n)+", step 0, step 2, step 2, step 2"); o.Flying > 12 {
			t.Errorf("behind %d rounds %d letters are on their way", 1+10*n, o.Flying)
		}
	}
	is(t, text+", move 0 2, "+rounds(300), 0, nobody(1))
}

// P12.6: an event that outlasted a crash, though it was not served, is served by the Start, with the answer that it has in its history, ahead of the Break.
func TestOutlasted(t *testing.T) {
	publishes := api.Served{Epoch: 1, Op: publish(1, 0, 77)}
	breaks := api.Served{Epoch: 1, Op: end, Number: -1}
	late := publishes
	late.Number = -1
	written := "make 0 0, publish 0 0 1 0 77, all, step 0"
	serves(t, written+", crash 0 45, start 0", breaks)
	serves(t, written+", crash 0 46")
	serves(t, written+", crash 0 46, start 0", late, breaks)
	serves(t, written+", crash 0 100000, start 0, crash 0 100000, start 0", late, breaks, breaks)
	serves(t, written+", step 0, crash 0 100000, start 0", publishes, breaks)
	received := written + ", step 0, receive 0 0, all, step 0, crash 0 46, start 0"
	serves(t, received, publishes, api.Served{Epoch: 1, Op: receive, Answer: handed(0, 0, 77), Number: -1}, breaks)
	acked := written + ", step 0, receive 0 0, all, step 0, step 0, ack 0 0 0 0, all, step 0, crash 0 46, start 0"
	serves(t, acked, publishes, api.Served{Epoch: 1, Op: receive, Answer: handed(0, 0, 77), Number: 1}, api.Served{Epoch: 1, Op: ack(0, 0), Number: -1}, breaks)
	other := strings.ReplaceAll("make 0 0, make 1 0, make 2 0, "+written[10:], "publish 0 0", "publish 0 1") + ", crash 0 46, start 0"
	late.Queue = 1
	one, two := breaks, breaks
	one.Queue, two.Queue = 1, 2
	serves(t, other, late, breaks, one, two)
}

// P12.6: the Break of an Activate that outlasted a crash is served by the Start, too; what was imported is not, and no other record makes anything served.
func TestOutlastedMove(t *testing.T) {
	moved := api.Served{Node: 2, Epoch: 2, Op: end, Number: -1}
	text := "make 0 0, " + goes(7) // an Activate is written: it has 22 bytes
	is(t, text+", crash 2 21", 2, importing(2, 0))
	serves(t, text+", crash 2 21, start 2")
	is(t, text+", crash 2 22", 2, active(2, end))
	serves(t, text+", crash 2 22")
	serves(t, text+", crash 2 22, start 2", moved, moved)
	is(t, text+", crash 2 22, start 2", 2, active(2, end, end))
	serves(t, text+", step 2, crash 2 22, start 2", moved, moved)
	serves(t, text+", step 2", moved)

	filled, l := filled(2)
	was := run(t, filled).Served
	filled += ", move 0 2, step 0, all, step 2, step 2, all, step 0, all, step 2" // two Imports are written
	for keep, n := range map[int]int{0: 0, 45: 0, 46: 1, 91: 1, 92: 2, 100000: 2} {
		text := filled + ", crash 2 " + strconv.Itoa(keep) + ", start 2"
		is(t, text, 2, importing(2, 0, l[:n]...))
		serves(t, text, was...)
	}
	for keep, role := range map[int]api.Berth{21: active(1), 22: sealed(1, 2)} { // a Seal
		is(t, "make 0 0, "+goes(5)+", crash 0 "+strconv.Itoa(keep), 0, role)
	}
	serves(t, "make 0 0, "+goes(5)+", crash 0 22, start 0")
	for keep, role := range map[int]api.Berth{21: nobody(0), 22: importing(2, 0)} { // a Begin
		is(t, "make 0 0, "+goes(3)+", crash 2 "+strconv.Itoa(keep)+", start 2", 2, role)
	}
	forgets := "make 0 0, " + strings.TrimSuffix(goes(13), ", step 0")
	for keep, role := range map[int]api.Berth{21: sealed(1, 2), 22: nobody(1)} { // a Forget
		is(t, forgets+", crash 0 "+strconv.Itoa(keep)+", start 0", 0, role)
		serves(t, forgets+", crash 0 "+strconv.Itoa(keep)+", start 0", moved)
	}
	is(t, forgets, 0, sealed(1, 2))
}

// P12.6: what outlasted a crash is not served if the node stays down.
func TestOutlastedDown(t *testing.T) {
	text := "make 0 0, make 1 0, " + cycle(0, 1200) + ", " + cycle(1, 971) + ", publish 0 1 3 0 9, all, step 0, crash 0 100000, start 0"
	if o := run(t, text); o.Up[0] || len(o.Served) != 2171 || len(o.Berths[0][1].Events) != 972 {
		t.Errorf("%v, %d served, %d events", o.Up, len(o.Served), len(o.Berths[0][1].Events))
	}
}

// P12.7: nodes that are down are told of by their tapes, others by what is synced there.
func TestOutcome(t *testing.T) {
	o := run(t, "make 0 0, make 1 1, publish 0 0 1 0 7, receive 1 1, receive 3 3, carry 0, carry 0, step 0, step 1, crash 0 46, crash 4 0")
	if o.Flying != 2 || o.Up != [5]bool{false, true, true, true, false} || o.Calls != 3 || len(o.Told) != 0 {
		t.Errorf("%v", o)
	}
	if o.Directory.Places != [4]api.Place{{Node: 0, Epoch: 1}, {Node: 1, Epoch: 1}, nowhere, nowhere} {
		t.Errorf("%v", o.Directory)
	}
	want := make([][]api.Berth, 5)
	for i := range want {
		want[i] = make([]api.Berth, 4)
	}
	want[0][0], want[1][1] = active(1, publish(1, 0, 7)), active(1)
	if fmt.Sprint(o.Berths) != fmt.Sprint(want) {
		t.Errorf("%v, want %v", o.Berths, want)
	}
	if !slices.Equal(o.Served, []api.Served{{Node: 1, Queue: 1, Epoch: 1, Op: receive, Answer: code(api.ErrEmpty), Number: 1}}) {
		t.Errorf("%v", o.Served)
	}
}

// Lists: what is handed in stays as it is, its spare room too; what comes out is new memory, of which no two lists share any. (P12.1, P12.7)
func TestMemory(t *testing.T) {
	text, _ := filled(7)
	text += ", move 0 2, " + rounds(8) + ", crash 1 0, make 1 3, receive 3 1, all, step 3, all"
	l := acts(t, text)
	mark := api.Act{Kind: -7, Node: -7}
	room := append(slices.Clone(l), mark, mark)
	before := slices.Clone(room)
	one, two := ran(t, room[:len(l)]), ran(t, room[:len(l)])
	if !slices.Equal(room, before) {
		t.Errorf("what was handed in became %v", room)
	}
	if !same(one, two) {
		t.Errorf("asked again: %v, was %v", two, one)
	}
	want := fmt.Sprint(one)
	for node := range two.Berths {
		for q := range two.Berths[node] {
			events := two.Berths[node][q].Events
			was := slices.Clone(events)
			events = events[:cap(events)]
			for i := range events {
				events[i] = api.Event{Kind: -9, Body: -9}
			}
			copy(two.Berths[node][q].Events, was)
			if fmt.Sprint(two) != want {
				t.Fatalf("two lists share memory: %v, was %s", two, want)
			}
		}
		_ = append(two.Berths[node], api.Berth{Role: -9})
	}
	_ = append(two.Berths, nil)
	_ = append(two.Served, api.Served{Node: -9})
	_ = append(two.Told, api.Told{Number: -9})
	if fmt.Sprint(one) != want || fmt.Sprint(two) != want || fmt.Sprint(ran(t, l)) != want {
		t.Errorf("answers share memory: %v", one)
	}
}
