package client_test

import (
	"fmt"
	"math"
	"slices"
	"testing"

	"berthshift/api"
	"berthshift/client"
	"berthshift/queue"
	"berthshift/window"
)

const last = api.MaxId

// sent: an event as a client publishes it, written out.
func sent(producer, id, body int) api.Event {
	return api.Event{Kind: api.Publish, Producer: producer, Id: id, Body: body}
}

// having: a client that waits for these Ids, each with a body that tells which one it is.
func having(producer, next int, ids ...int) api.Client {
	c := api.Client{Producer: producer, Next: next, Where: [4]int{-1, 0, 4, 2}}
	for i, id := range ids {
		c.Waiting = append(c.Waiting, sent(producer, id, 100+i))
	}
	return c
}

// same: are two clients the same? A list without elements may be nil or not.
func same(a, b api.Client) bool {
	return a.Producer == b.Producer && a.Next == b.Next && slices.Equal(a.Waiting, b.Waiting) && a.Where == b.Where
}

// copied: the client, with a list that nobody else has.
func copied(c api.Client) api.Client {
	c.Waiting = append([]api.Event{}, c.Waiting...)
	return c
}

// became: is this the client that is answered, and may it be?
func became(t *testing.T, what string, got api.Client, e api.Errno, want api.Client) {
	t.Helper()
	if !same(got, want) || e != api.OK {
		t.Errorf("%s: %v, %v; want %v", what, got, e, want)
	}
	if client.Check(got) != api.OK {
		t.Errorf("%s: %v, which may not be", what, got)
	}
}

// refused: nothing but this error is answered.
func refused(t *testing.T, what string, got api.Client, e, want api.Errno) {
	t.Helper()
	if !same(got, api.Client{}) || e != want {
		t.Errorf("%s: %v, %v; want nothing, %v", what, got, e, want)
	}
}

// mayBe: clients that may be.
func mayBe() []api.Client {
	l := []api.Client{
		{},
		{Waiting: []api.Event{}},
		having(0, 1, 0),
		having(1, 5, 0, 4),
		having(2, 8, 0, 1, 2, 3, 4, 5, 6, 7),
		having(3, 8, 0),
		having(3, 8, 7),
		having(0, 9, 1),
		having(0, 1000, 992, 993, 994, 995, 996, 997, 998, 999),
		having(1, 1000, 992, 999),
		having(1, 1000, 993, 996),
		having(2, last, last-8, last-7, last-6, last-5, last-4, last-3, last-2, last-1),
		having(2, last, last-1),
		having(3, last-1, last-9, last-2),
		having(3, last),
	}
	for producer := range 4 {
		l = append(l, having(producer, 0), having(producer, 7, 3, 6))
	}
	for q := range 4 {
		for _, node := range []int{-1, 0, 1, 2, 3, 4} {
			c := having(1, 9, 2, 8)
			c.Where[q] = node
			l = append(l, c)
		}
	}
	for _, body := range []int{0, 1, api.MaxBody - 1, api.MaxBody} {
		l = append(l, api.Client{Next: 4, Waiting: []api.Event{sent(0, 3, body)}})
	}
	return l
}

// outside: numbers that are not from least to most.
func outside(least, most int) []int {
	return []int{math.MinInt, -1 << 32, least - 2, least - 1, most + 1, most + 2, most + 1<<32, 1 << 32, 1<<32 + 1, math.MaxInt}
}

// mayNotBe: clients that may not be.
func mayNotBe() []api.Client {
	var l []api.Client
	for _, n := range outside(0, 3) {
		l = append(l, having(n, 0), having(n, 5), api.Client{Producer: n, Next: 5, Waiting: []api.Event{sent(0, 4, 1)}})
		c := having(0, 5)
		c.Producer, c.Waiting = n, []api.Event{sent(n, 4, 1)}
		l = append(l, c)
	}
	for _, n := range outside(0, last) {
		l = append(l, having(0, n), having(0, n, n-1), having(0, n, last))
	}
	for _, n := range outside(-1, 4) {
		for q := range 4 {
			c := having(0, 5, 4)
			c.Where[q] = n
			l = append(l, c)
		}
		l = append(l, api.Client{Where: [4]int{n, n, n, n}})
	}
	return append(append(l, wrongIds()...), wrongEvents()...)
}

// wrongIds: clients that wait for Ids for which none may wait.
func wrongIds() []api.Client {
	l := []api.Client{
		having(0, 0, 0),
		having(0, 0, -1),
		having(0, 5, -1),
		having(0, 5, -3, 4),
		having(0, 5, 5),
		having(0, 5, 6),
		having(0, 5, 4, 5),
		having(0, 5, 3, 3),
		having(0, 5, 4, 3),
		having(0, 5, 2, 4, 3),
		having(0, 5, 1, 2, 2),
		having(0, 9, 0),
		having(0, 9, 0, 1),
		having(0, 9, 1, 0),
		having(0, 1000, 991),
		having(0, 1000, 991, 992),
		having(0, 1000, 992, 1000),
		having(0, 1000, 0, 999),
		having(0, 1000, 992, 993, 994, 995, 996, 997, 998, 999, 999),
		having(0, 1000, 991, 992, 993, 994, 995, 996, 997, 998, 999),
		having(0, 1000, 992, 993, 994, 995, 996, 997, 998, 999, 1000),
		having(0, last, last),
		having(0, last, last-9),
		having(0, last, last-1, last),
		having(0, last, last+1),
	}
	for _, id := range outside(0, 9) {
		l = append(l, having(0, 10, id), having(0, 10, 9, id), having(0, 10, id, 9))
	}
	return l
}

// wrongEvents: clients that wait for events that may not be, are no Publish, or another producer's: at each place among others.
func wrongEvents() []api.Client {
	bad := []api.Event{
		{},
		{Kind: api.Receive},
		{Kind: api.Break},
		{Kind: api.Ack},
		{Kind: api.Ack, Handle: api.Handle{Epoch: 1, No: 2}},
		{Kind: -1, Producer: 1, Id: 5},
		{Kind: 5, Producer: 1, Id: 5},
		{Kind: api.Receive, Producer: 1, Id: 5},
		{Kind: api.Ack, Producer: 1, Id: 5},
		{Kind: 1<<32 + 1, Producer: 1, Id: 5},
		{Kind: api.Publish, Producer: 1, Id: 5, Handle: api.Handle{Epoch: 1}},
		{Kind: api.Publish, Producer: 1, Id: 5, Handle: api.Handle{No: 1}},
		sent(0, 5, 1), sent(2, 5, 1), sent(3, 5, 1), sent(-1, 5, 1), sent(4, 5, 1), sent(1<<32+1, 5, 1),
	}
	for _, body := range outside(0, api.MaxBody) {
		bad = append(bad, sent(1, 5, body))
	}
	var l []api.Client
	for _, e := range bad {
		for place, ids := range [][]int{{5}, {5, 6}, {4, 5}, {3, 4, 5, 6}} {
			c := having(1, 7, ids...)
			c.Waiting[[]int{0, 0, 1, 2}[place]] = e
			l = append(l, c)
		}
	}
	return l
}

// numbers at which queues, nodes, ids and bodies begin and end, and far ones.
var numbers = []int{math.MinInt, -1 << 32, -2, -1, 0, 1, 2, 3, 4, 5, 6, 7, 8, 9, api.MaxBody, api.MaxBody + 1, last - 1, last, last + 1, 1 << 32, 1<<32 + 1, math.MaxInt}

// P10.1: clients that may be: each producer, Next at its ends, Ids below it by 1 and by DedupWindow, with gaps and without; each node, and none.
func TestCheck(t *testing.T) {
	for _, c := range mayBe() {
		if e := client.Check(c); e != api.OK {
			t.Errorf("Check of %v: %v", c, e)
		}
	}
}

// P10.1: others are refused, by Check and by all calls but New, ahead of all else; nothing else is answered.
func TestMayNotBe(t *testing.T) {
	for _, c := range mayNotBe() {
		if e := client.Check(c); e != api.ErrState {
			t.Errorf("Check of %v: %v", c, e)
		}
		for _, n := range numbers {
			got, event, e := client.Send(c, n)
			refused(t, fmt.Sprint("Send of ", c, n), got, e, api.ErrState)
			if event != (api.Event{}) {
				t.Errorf("Send of %v, %d: the event %v", c, n, event)
			}
			got, e = client.Done(c, n)
			refused(t, fmt.Sprint("Done of ", c, n), got, e, api.ErrState)
			if node, e := client.Ask(c, n); node != 0 || e != api.ErrState {
				t.Errorf("Ask of %v, %d: %v, %v", c, n, node, e)
			}
			for _, node := range []int{-2, -1, 0, 4, 5} {
				got, e = client.Learn(c, n, node)
				refused(t, fmt.Sprint("Learn of ", c, n, node), got, e, api.ErrState)
			}
		}
	}
}

// P10.1: a list far longer than may be is refused, and so is one that is in order but for its length.
func TestLong(t *testing.T) {
	long := having(0, last)
	for i := range 1000000 {
		long.Waiting = append(long.Waiting, sent(0, last-1000000+i, 1))
	}
	for _, c := range []api.Client{long, {Next: 5, Waiting: make([]api.Event, 1000000)}} {
		if e := client.Check(c); e != api.ErrState {
			t.Errorf("Check of %d events: %v", len(c.Waiting), e)
		}
	}
}

// P10.2: a new client of each producer, that may be, waits for nothing and knows nothing; what is made of one is not seen in the next.
func TestNew(t *testing.T) {
	for producer := range 4 {
		c, e := client.New(producer)
		became(t, fmt.Sprint("New ", producer), c, e, api.Client{Producer: producer, Where: [4]int{-1, -1, -1, -1}})
		for q := range c.Where {
			if node, e := client.Ask(c, q); node != 0 || e != api.ErrNone {
				t.Errorf("Ask of a new one, %d: %v, %v", q, node, e)
			}
			c.Where[q] = 3
		}
		c, e = client.New(producer)
		became(t, fmt.Sprint("New again ", producer), c, e, api.Client{Producer: producer, Where: [4]int{-1, -1, -1, -1}})
	}
	for _, producer := range outside(0, 3) {
		c, e := client.New(producer)
		refused(t, fmt.Sprint("New ", producer), c, e, api.ErrRange)
	}
}

// P10.3: the event, which waits behind the others; Next is one more; all else is as it was.
func TestSend(t *testing.T) {
	for _, c := range []api.Client{
		{},
		having(3, 0),
		having(0, 1, 0),
		having(1, 5, 0, 4),
		having(2, 7, 0, 1, 2, 3, 4, 5, 6),
		having(2, 8),
		having(2, 8, 1),
		having(2, 8, 1, 2, 3, 4, 5, 6, 7),
		having(0, 1000, 993, 994, 995, 996, 997, 998, 999),
		having(0, 1000, 993),
		having(0, 1000, 999),
		having(3, last-1),
		having(3, last-1, last-8, last-2),
	} {
		for _, body := range []int{0, 1, 77, api.MaxBody - 1, api.MaxBody} {
			before := copied(c)
			want := copied(c)
			want.Waiting = append(want.Waiting, sent(c.Producer, c.Next, body))
			want.Next++
			got, event, e := client.Send(c, body)
			became(t, fmt.Sprint("Send of ", before, body), got, e, want)
			if event != sent(before.Producer, before.Next, body) {
				t.Errorf("Send of %v, %d: the event %v", before, body, event)
			}
			if !same(c, before) {
				t.Errorf("Send of %v: what was handed in became %v", before, c)
			}
		}
	}
}

// P10.3: each error alone, and ErrRange ahead of ErrFull.
func TestSendRefused(t *testing.T) {
	for _, c := range []struct {
		what string
		c    api.Client
		body int
		want api.Errno
	}{
		{"a body below 0", having(0, 5), -1, api.ErrRange},
		{"a body above all", having(0, 5), api.MaxBody + 1, api.ErrRange},
		{"a body far below 0", having(0, 5, 4), math.MinInt, api.ErrRange},
		{"a body far above all", having(0, 5, 4), math.MaxInt, api.ErrRange},
		{"a body that is the same in 32 bits", having(0, 5, 4), 1<<32 + 1, api.ErrRange},
		{"Next is MaxId", having(0, last), 1, api.ErrFull},
		{"Next is MaxId, and one waits", having(0, last, last-1), 1, api.ErrFull},
		{"Next is MaxId, and the first one is at the window's end", having(0, last, last-8), 1, api.ErrFull},
		{"the first one is at the window's end", having(0, 8, 0), 1, api.ErrFull},
		{"the first one of several is", having(1, 1000, 992, 999), 0, api.ErrFull},
		{"the first one of all is", having(1, 8, 0, 1, 2, 3, 4, 5, 6, 7), api.MaxBody, api.ErrFull},
		{"the first one is, one ahead of MaxId", having(1, last-1, last-9), 1, api.ErrFull},
		{"a body below 0, ahead of MaxId", having(0, last), -1, api.ErrRange},
		{"a body above all, ahead of the window's end", having(0, 8, 0), api.MaxBody + 1, api.ErrRange},
		{"a body above all, ahead of both", having(0, last, last-8), api.MaxBody + 1, api.ErrRange},
	} {
		got, event, e := client.Send(c.c, c.body)
		refused(t, c.what, got, e, c.want)
		if event != (api.Event{}) {
			t.Errorf("%s: the event %v", c.what, event)
		}
	}
}

// P10.3, P10.4: eight may wait at most, one behind the other; the first one's answer makes room, another one's does not.
func TestRoom(t *testing.T) {
	c, _ := client.New(2)
	for i := range 8 {
		var e api.Errno
		if c, _, e = client.Send(c, i); e != api.OK {
			t.Fatalf("Send %d: %v", i, e)
		}
	}
	_, _, e := client.Send(c, 8)
	if e != api.ErrFull {
		t.Errorf("the ninth one: %v", e)
	}
	other, _ := client.Done(c, 1)
	if _, _, e := client.Send(other, 8); e != api.ErrFull {
		t.Errorf("behind the second one's answer: %v", e)
	}
	first, _ := client.Done(c, 0)
	next, event, e := client.Send(first, 8)
	if event != sent(2, 8, 8) || e != api.OK {
		t.Errorf("behind the first one's answer: %v, %v", event, e)
	}
	if _, _, e := client.Send(next, 9); e != api.ErrFull {
		t.Errorf("and one more: %v", e)
	}
}

// P10.4: each event that waits waits no more; the others do, in their order, and all else is as it was. Twice it is not there.
func TestDone(t *testing.T) {
	for _, c := range mayBe() {
		for i, event := range c.Waiting {
			before, want := copied(c), copied(c)
			want.Waiting = slices.Delete(want.Waiting, i, i+1)
			got, e := client.Done(c, event.Id)
			became(t, fmt.Sprint("Done of ", before, event.Id), got, e, want)
			if !same(c, before) {
				t.Errorf("Done of %v: what was handed in became %v", before, c)
			}
			got, e = client.Done(got, event.Id)
			refused(t, fmt.Sprint("Done twice of ", before, event.Id), got, e, api.ErrNone)
		}
	}
}

// P10.4: an Id that does not wait, whatever number it is: it was answered, is to come, or no event can have it.
func TestDoneNone(t *testing.T) {
	for _, c := range mayBe() {
		for _, id := range append(slices.Clone(numbers), c.Next-9, c.Next-8, c.Next-4, c.Next-1, c.Next, c.Next+1) {
			if slices.ContainsFunc(c.Waiting, func(e api.Event) bool { return e.Id == id }) {
				continue
			}
			got, e := client.Done(c, id)
			refused(t, fmt.Sprint("Done of ", c, id), got, e, api.ErrNone)
		}
	}
	got, e := client.Done(having(0, 10, 5), 100) // its body
	refused(t, "Done of a body", got, e, api.ErrNone)
}

// P10.5, P10.6: each queue at each node, and at none, also where it was known; the other queues, and all else, are as they were.
func TestLearn(t *testing.T) {
	for _, c := range mayBe() {
		for q := range 4 {
			for node := -1; node < 5; node++ {
				before, want := copied(c), copied(c)
				want.Where[q] = node
				got, e := client.Learn(c, q, node)
				became(t, fmt.Sprint("Learn of ", before, q, node), got, e, want)
				asks(t, got)
				if !same(c, before) {
					t.Errorf("Learn of %v: what was handed in became %v", before, c)
				}
			}
		}
	}
}

// asks: does Ask tell of each queue what stands in the client?
func asks(t *testing.T, c api.Client) {
	t.Helper()
	for q, want := range c.Where {
		node, e := client.Ask(c, q)
		if want == -1 && (node != 0 || e != api.ErrNone) {
			t.Errorf("Ask of %v, %d: %v, %v; want nothing, ErrNone", c, q, node, e)
		}
		if want != -1 && (node != want || e != api.OK) {
			t.Errorf("Ask of %v, %d: %v, %v; want %v", c, q, node, e, want)
		}
	}
}

// P10.5: numbers that are no queue's, or neither a node's nor -1.
func TestLearnRefused(t *testing.T) {
	for _, c := range mayBe() {
		for _, n := range outside(0, 3) {
			for _, node := range []int{-2, -1, 0, 4, 5} {
				got, e := client.Learn(c, n, node)
				refused(t, fmt.Sprint("Learn of ", c, n, node), got, e, api.ErrRange)
			}
		}
		for _, n := range outside(-1, 4) {
			for q := range 4 {
				got, e := client.Learn(c, q, n)
				refused(t, fmt.Sprint("Learn of ", c, q, n), got, e, api.ErrRange)
			}
		}
	}
}

// P10.6: where each queue is; numbers that are no queue's, also where nothing is known.
func TestAsk(t *testing.T) {
	for _, c := range mayBe() {
		asks(t, c)
		for _, n := range outside(0, 3) {
			if node, e := client.Ask(c, n); node != 0 || e != api.ErrRange {
				t.Errorf("Ask of %v, %d: %v, %v", c, n, node, e)
			}
		}
	}
	c, _ := client.New(0)
	for _, n := range outside(0, 3) {
		if node, e := client.Ask(c, n); node != 0 || e != api.ErrRange {
			t.Errorf("Ask of a new one, %d: %v, %v", n, node, e)
		}
	}
}

// model of a client, by another way than the program's: bodies by their Ids, and the queues of which it is known where they are.
type model struct {
	producer, next int
	bodies, nodes  map[int]int
}

func modelOf(c api.Client) *model {
	m := &model{c.Producer, c.Next, map[int]int{}, map[int]int{}}
	for _, e := range c.Waiting {
		m.bodies[e.Id] = e.Body
	}
	for q, node := range c.Where {
		if node != -1 {
			m.nodes[q] = node
		}
	}
	return m
}

// client that this model is one of.
func (m *model) client() api.Client {
	c := api.Client{Producer: m.producer, Next: m.next}
	for id := m.next - 8; id < m.next; id++ {
		if body, ok := m.bodies[id]; ok {
			c.Waiting = append(c.Waiting, api.Event{Kind: 1, Producer: m.producer, Id: id, Body: body})
		}
	}
	for q := range c.Where {
		if node, ok := m.nodes[q]; ok {
			c.Where[q] = node
		} else {
			c.Where[q] = -1
		}
	}
	return c
}

func (m *model) send(body int) api.Errno {
	if body < 0 || body > 1000000 {
		return api.ErrRange
	}
	if _, old := m.bodies[m.next-8]; old || m.next >= 1<<30 {
		return api.ErrFull
	}
	m.bodies[m.next] = body
	m.next++
	return api.OK
}

func (m *model) done(id int) api.Errno {
	if _, ok := m.bodies[id]; !ok {
		return api.ErrNone
	}
	delete(m.bodies, id)
	return api.OK
}

func (m *model) learn(q, node int) api.Errno {
	if q < 0 || q > 3 || node < -1 || node > 4 {
		return api.ErrRange
	}
	delete(m.nodes, q)
	if node >= 0 {
		m.nodes[q] = node
	}
	return api.OK
}

func (m *model) ask(q int) (int, api.Errno) {
	node, known := m.nodes[q]
	if q < 0 || q > 3 {
		return 0, api.ErrRange
	}
	if !known {
		return 0, api.ErrNone
	}
	return node, api.OK
}

// answers: is this what the model says?
func (m *model) answers(t *testing.T, what string, got api.Client, e, want api.Errno) {
	t.Helper()
	if want != api.OK {
		refused(t, what, got, e, want)
		return
	}
	became(t, what, got, e, m.client())
}

// agrees: does each call answer what the model says, of a client that may be?
func agrees(t *testing.T, c api.Client, n, k int) {
	t.Helper()
	before := copied(c)
	m := modelOf(c)
	want := m.send(n)
	got, event, e := client.Send(c, n)
	m.answers(t, fmt.Sprint("Send of ", before, n), got, e, want)
	if want == api.OK && event != sent(before.Producer, before.Next, n) || want != api.OK && event != (api.Event{}) {
		t.Errorf("Send of %v, %d: the event %v", before, n, event)
	}
	m = modelOf(c)
	want = m.done(n)
	got, e = client.Done(c, n)
	m.answers(t, fmt.Sprint("Done of ", before, n), got, e, want)
	m = modelOf(c)
	want = m.learn(n, k)
	got, e = client.Learn(c, n, k)
	m.answers(t, fmt.Sprint("Learn of ", before, n, k), got, e, want)
	wantNode, want := modelOf(c).ask(n)
	if node, e := client.Ask(c, n); node != wantNode || e != want {
		t.Errorf("Ask of %v, %d: %v, %v; want %v, %v", before, n, node, e, wantNode, want)
	}
	if !same(c, before) {
		t.Errorf("what was handed in was %v, is %v", before, c)
	}
}

// P10.3 to P10.6: all sets of Ids that may wait, at each Next near both ends and in between, against the model.
func TestAll(t *testing.T) {
	for _, next := range []int{0, 1, 2, 7, 8, 9, 10, 1000, last - 1, last} {
		for set := range 1 << 8 {
			var ids []int
			for i := range 8 {
				if id := next - 8 + i; set>>i&1 == 1 && id >= 0 {
					ids = append(ids, id)
				}
			}
			c := having(set%4, next, ids...)
			if e := client.Check(c); e != api.OK {
				t.Errorf("Check of %v: %v", c, e)
			}
			for n := next - 10; n < next+3; n++ {
				agrees(t, c, n, n)
			}
			agrees(t, c, set%4, set%6-1)
		}
	}
}

// lets: may this client be, by another way than the program's? Each event is held against each Id that may wait.
func lets(c api.Client) bool {
	ok := c.Producer >= 0 && c.Producer < 4 && c.Next >= 0 && c.Next <= 1<<30
	for _, node := range c.Where {
		ok = ok && node >= -1 && node <= 4
	}
	if !ok {
		return false
	}
	place := 0
	for below := 8; below >= 1 && place < len(c.Waiting); below-- {
		e := c.Waiting[place]
		if id := c.Next - below; id >= 0 && e == sent(c.Producer, id, e.Body) && e.Body >= 0 && e.Body <= 1000000 {
			place++
		}
	}
	return place == len(c.Waiting)
}

// die: numbers that look drawn, the same each time.
type die uint64

func (d *die) n(most int) int {
	*d = *d*6364136223846793005 + 1442695040888963407
	return int(uint64(*d>>33) % uint64(most))
}

// P10.1 to P10.6: drawn clients against the model, step by step, from a new one and from one near the last Id on.
func TestDrawn(t *testing.T) {
	d := die(10)
	for range 400 {
		c, _ := client.New(d.n(4))
		if d.n(3) == 0 {
			c.Next = last - d.n(40)
		}
		for range 60 {
			n := []int{d.n(6) - 1, c.Next - d.n(10), d.n(1000002) - 1}[d.n(3)]
			k := d.n(8) - 2
			agrees(t, c, n, k)
			x := []api.Client{}
			for range 2 + d.n(2) {
				y, _, e := client.Send(c, d.n(100))
				if e == api.OK {
					x = append(x, y)
				}
			}
			if y, e := client.Done(c, n); e == api.OK {
				x = append(x, y)
			}
			if y, e := client.Learn(c, n, k); e == api.OK {
				x = append(x, y)
			}
			if len(x) > 0 {
				c = x[d.n(len(x))]
			}
		}
	}
}

// P10.1: drawn clients with one number that is another one: Check says what the rule says, written otherwise.
func TestDrawnWrong(t *testing.T) {
	d := die(101)
	counts := map[api.Errno]int{}
	for range 40000 {
		next := []int{d.n(12), 1000, last - d.n(3)}[d.n(3)]
		c := having(d.n(4), next)
		for id := max(0, next-8); id < next; id++ {
			if d.n(3) > 0 {
				c.Waiting = append(c.Waiting, sent(c.Producer, id, d.n(5)))
			}
		}
		at := []*int{&c.Producer, &c.Next, &c.Where[0], &c.Where[1], &c.Where[2], &c.Where[3]}
		for i := range c.Waiting {
			e := &c.Waiting[i]
			at = append(at, &e.Kind, &e.Producer, &e.Id, &e.Id, &e.Body, &e.Handle.Epoch, &e.Handle.No)
		}
		p := at[d.n(len(at))]
		*p = []int{*p, *p - 1, *p + 1, *p + 1<<32, numbers[d.n(len(numbers))], next - d.n(11)}[d.n(6)]
		want := api.ErrState
		if lets(c) {
			want = api.OK
		}
		counts[want]++
		if e := client.Check(c); e != want {
			t.Errorf("Check of %v: %v, want %v", c, e, want)
		}
	}
	if counts[api.OK] < 1000 || counts[api.ErrState] < 1000 {
		t.Errorf("so many were drawn: %v", counts)
	}
}

// What comes of it: whatever is sent again, in whatever order, to whatever queues, is never below a queue's window, and no message is there twice.
func TestNeverLow(t *testing.T) {
	d := die(102)
	for range 200 {
		producer := d.n(4)
		c, _ := client.New(producer)
		if d.n(4) == 0 {
			c.Next = last - 150
		}
		q := api.Queue{}
		windows := [3]api.Window{}
		fresh := map[int]int{}
		for range 300 {
			if x, _, e := client.Send(c, d.n(10)); e == api.OK && d.n(2) == 0 {
				c = x
			}
			if len(c.Waiting) == 0 {
				continue
			}
			event := c.Waiting[d.n(len(c.Waiting))]
			w := &windows[d.n(3)]
			taken, _, e := window.Take(*w, event.Id)
			if e != api.OK {
				t.Fatalf("the Id %d comes to %v: %v", event.Id, *w, e)
			}
			*w = taken
			again, a, changed, e := queue.Do(q, event)
			if a.Code != api.OK || e != api.OK {
				t.Fatalf("%v comes to the queue: %v, %v", event, a, e)
			}
			q = again
			if changed {
				fresh[event.Id]++
			}
			if fresh[event.Id] != 1 {
				t.Fatalf("%v was new %d times", event, fresh[event.Id])
			}
			if d.n(3) > 0 {
				c, _ = client.Done(c, event.Id)
			}
		}
	}
}

// spoil: what a list has, its spare room too, is written over.
func spoil(l []api.Event) {
	l = l[:cap(l)]
	for i := range l {
		l[i] = api.Event{Kind: -9, Producer: -9, Id: -9, Body: -9}
	}
}

// Lists: what is handed in stays as it is, its spare room too; what comes out is new memory; asked again, each call answers the same. (P10.3 to P10.5)
func TestMemory(t *testing.T) {
	mark := sent(-7, -7, -7)
	calls := []func(c api.Client) api.Client{
		func(c api.Client) api.Client { x, _, _ := client.Send(c, 5); return x },
		func(c api.Client) api.Client { x, _ := client.Done(c, 4); return x },
		func(c api.Client) api.Client { x, _ := client.Done(c, 9); return x },
		func(c api.Client) api.Client { x, _ := client.Learn(c, 1, 3); return x },
		func(c api.Client) api.Client { x, _ := client.Learn(c, 1, -1); return x },
		func(c api.Client) api.Client { x, _ := client.Learn(c, 1, 5); return x },
		func(c api.Client) api.Client { client.Ask(c, 1); client.Check(c); return api.Client{} },
	}
	for _, ids := range [][]int{{}, {4}, {9}, {4, 9}, {3, 4, 5, 9}, {3, 4, 5, 6, 7, 8, 9}} {
		for i, call := range calls {
			c := having(1, 10, ids...)
			room := append(slices.Clone(c.Waiting), mark, mark, mark, mark)
			before := slices.Clone(room)
			c.Waiting = room[:len(ids)]
			first, second := call(c), call(c)
			want := copied(second)
			spoil(first.Waiting)
			if !same(second, want) {
				t.Errorf("call %d: two answers share memory: %v, then %v", i, want, second)
			}
			if !slices.Equal(room, before) {
				t.Errorf("call %d: what was handed in became %v, was %v", i, room, before)
			}
			if third := call(c); !same(third, want) {
				t.Errorf("call %d, asked again: %v, then %v", i, want, third)
			}
			spoil(room)
			if !same(second, want) {
				t.Errorf("call %d: what was handed in is kept: %v, then %v", i, want, second)
			}
		}
	}
}

// Whatever a client is, and whatever is asked: no call panics, and each answers as the promises say. (P10.1 to P10.6)
func FuzzClient(f *testing.F) {
	f.Add(0, 5, 3, 1, 4, 2, 0, -1, 7, 2)
	f.Add(3, 8, 0, 1000000, 7, 0, 4, 3, 0, -1)
	f.Add(1, 1<<30, 1<<30-8, 0, 1<<30-1, 0, -1, -1, 3, 4)
	f.Add(4, -1, 1, 1, 1, -1, 5, -2, 4, 5)
	f.Fuzz(func(t *testing.T, producer, next, idA, bodyA, idB, bodyB, here, there, n, k int) {
		a, b := sent(producer, idA, bodyA), sent(producer, idB, bodyB)
		for _, l := range [][]api.Event{nil, {a}, {b}, {a, b}, {b, a}} {
			c := api.Client{Producer: producer, Next: next, Waiting: l, Where: [4]int{here, there, -1, here}}
			if lets(c) {
				agrees(t, c, n, k)
				continue
			}
			if e := client.Check(c); e != api.ErrState {
				t.Errorf("Check of %v: %v", c, e)
			}
			got, _, e := client.Send(c, n)
			refused(t, "Send", got, e, api.ErrState)
			got, e = client.Done(c, n)
			refused(t, "Done", got, e, api.ErrState)
			got, e = client.Learn(c, n, k)
			refused(t, "Learn", got, e, api.ErrState)
			if node, e := client.Ask(c, n); node != 0 || e != api.ErrState {
				t.Errorf("Ask of %v, %d: %v, %v", c, n, node, e)
			}
		}
	})
}
