package pack_test

import (
	"bytes"
	"math"
	"slices"
	"strconv"
	"testing"

	"berthshift/api"
	"berthshift/pack"
)

// same: is an answer that has two parts as it should be?
func same[T comparable](t *testing.T, what string, got T, e api.Errno, want T, f api.Errno) {
	t.Helper()
	if got != want || e != f {
		t.Errorf("%s: %#v, %v; want %#v, %v", what, got, e, want, f)
	}
}

func publish(producer, id, body int) api.Event {
	return api.Event{Kind: api.Publish, Producer: producer, Id: id, Body: body}
}

func ack(epoch, no int) api.Event {
	return api.Event{Kind: api.Ack, Handle: api.Handle{Epoch: epoch, No: no}}
}

// word: a number's four bytes, by another way than the program's.
func word(n int) string {
	u := uint32(n)
	return string([]byte{byte(u / 0x1000000), byte(u / 0x10000 % 0x100), byte(u / 0x100 % 0x100), byte(u % 0x100)})
}

func words(l ...int) string {
	s := ""
	for _, n := range l {
		s += word(n)
	}
	return s
}

// outside of 0 to most: the edges, and far away.
func outside(most int) []int {
	return []int{-1, most + 1, math.MinInt, math.MaxInt, -1 << 32, 1 << 32}
}

// P1.1
func TestNumber(t *testing.T) {
	for n, want := range map[int]string{
		0: "\x00\x00\x00\x00", 1: "\x00\x00\x00\x01", 255: "\x00\x00\x00\xff", 256: "\x00\x00\x01\x00",
		65536: "\x00\x01\x00\x00", 0x01020304: "\x01\x02\x03\x04", 0x7ffffffe: "\x7f\xff\xff\xfe",
		api.MaxNumber: "\x7f\xff\xff\xff",
	} {
		b, e := pack.Number(n)
		same(t, "Number "+strconv.Itoa(n), string(b), e, want, api.OK)
	}
	for _, n := range outside(api.MaxNumber) {
		b, e := pack.Number(n)
		same(t, "Number "+strconv.Itoa(n), string(b), e, "", api.ErrRange)
	}
}

// P1.2
func TestTake(t *testing.T) {
	for _, c := range []struct {
		bytes string
		n     int
		e     api.Errno
	}{
		{"\x00\x00\x00\x00", 0, api.OK},
		{"\x01\x02\x03\x04", 0x01020304, api.OK},
		{"\x00\x00\x01\x02\x09", 258, api.OK},
		{"\x00\x00\x00\x07\xff\xff\xff\xff", 7, api.OK},
		{"\x7f\xff\xff\xff", api.MaxNumber, api.OK},
		{"\x80\x00\x00\x00", 0, api.ErrRange},
		{"\xff\xff\xff\xff", 0, api.ErrRange},
		{"\xff\xff\xff\xff\x00", 0, api.ErrRange},
		{"", 0, api.ErrShort},
		{"\x00", 0, api.ErrShort},
		{"\x00\x00\x00", 0, api.ErrShort},
		{"\xff\xff\xff", 0, api.ErrShort},
	} {
		n, e := pack.Take([]byte(c.bytes))
		same(t, "Take "+strconv.Quote(c.bytes), n, e, c.n, c.e)
	}
	if n, e := pack.Take(nil); n != 0 || e != api.ErrShort {
		t.Error("Take nil:", n, e)
	}
	if n, e := pack.Take(make([]byte, 3, 8)); n != 0 || e != api.ErrShort {
		t.Error("Take of three bytes with room behind them:", n, e)
	}
}

func checks(t *testing.T, want api.Errno, l ...api.Event) {
	t.Helper()
	for _, e := range l {
		if got := pack.Check(e); got != want {
			t.Errorf("Check %+v: %v, want %v", e, got, want)
		}
	}
}

// P1.3: what may be, with the edges of all bounds.
func TestCheckMayBe(t *testing.T) {
	checks(t, api.OK,
		publish(0, 0, 0), publish(3, 5, 77),
		publish(api.MaxProducers-1, api.MaxId, api.MaxBody),
		api.Event{Kind: api.Receive}, api.Event{Kind: api.Break},
		ack(0, 0), ack(2, 3), ack(api.MaxEpoch, api.MaxId))
}

// P1.3: kinds that are none; this is told ahead of what is wrong with the fields.
func TestCheckKind(t *testing.T) {
	for _, k := range []int{0, -1, 5, 256 + api.Receive, 1<<32 + api.Receive, math.MinInt, math.MaxInt} {
		checks(t, api.ErrForm, api.Event{Kind: k}, api.Event{Kind: k, Producer: -1, Id: -1, Body: -1, Handle: api.Handle{Epoch: -1, No: -1}})
	}
}

// P1.3: numbers beyond their bounds; this is told ahead of fields that should not be.
func TestCheckRange(t *testing.T) {
	refused := func(e api.Event) {
		t.Helper()
		checks(t, api.ErrRange, e)
		if e.Kind == api.Publish {
			e.Handle.No = 1
		} else {
			e.Body = -1
		}
		checks(t, api.ErrRange, e)
	}
	for _, n := range outside(api.MaxProducers - 1) {
		refused(publish(n, 0, 0))
	}
	for _, n := range outside(api.MaxId) {
		refused(publish(0, n, 0))
		refused(ack(0, n))
	}
	for _, n := range outside(api.MaxBody) {
		refused(publish(0, 0, n))
	}
	for _, n := range outside(api.MaxEpoch) {
		refused(ack(n, 0))
	}
}

// eventFields: each field of an event but its kind.
func eventFields(e *api.Event) []*int {
	return []*int{&e.Producer, &e.Id, &e.Body, &e.Handle.Epoch, &e.Handle.No}
}

// P1.3: fields that a kind does not have, whatever their number.
func TestCheckNoSuchField(t *testing.T) {
	has := map[int][]int{api.Publish: {0, 1, 2}, api.Receive: {}, api.Ack: {3, 4}, api.Break: {}}
	for kind, own := range has {
		for i := range 5 {
			for _, n := range []int{1, -1, math.MaxInt, math.MinInt} {
				e := api.Event{Kind: kind}
				*eventFields(&e)[i] = n
				if !slices.Contains(own, i) {
					checks(t, api.ErrForm, e)
				} else if n == 1 {
					checks(t, api.OK, e)
				}
			}
		}
	}
}

func records(t *testing.T, want api.Errno, l ...api.Record) {
	t.Helper()
	for _, r := range l {
		if got := pack.Record(r); got != want {
			t.Errorf("Record %+v: %v, want %v", r, got, want)
		}
		b, e := pack.Encode(r)
		if e != want || want != api.OK && len(b) > 0 {
			t.Errorf("Encode %+v: %v, %v, want %v", r, b, e, want)
		}
	}
}

// kinds of records with their least event.
func kinds() map[int]api.Event {
	receive := api.Event{Kind: api.Receive}
	return map[int]api.Event{api.Create: {}, api.History: receive, api.Seal: {}, api.Begin: {}, api.Import: receive, api.Activate: {}, api.Forget: {}}
}

// P1.4 (and P1.5: Encode refuses the same): what may stand on a tape, with the edges of all bounds.
func TestRecordMayStand(t *testing.T) {
	for k, e := range kinds() {
		records(t, api.OK,
			api.Record{Kind: k, Event: e},
			api.Record{Kind: k, Queue: api.MaxQueues - 1, Epoch: api.MaxEpoch, Peer: api.MaxNodes - 1, Event: e})
	}
	for _, k := range []int{api.History, api.Import} {
		for _, e := range []api.Event{publish(3, api.MaxId, api.MaxBody), ack(api.MaxEpoch, api.MaxId), {Kind: api.Break}} {
			records(t, api.OK, api.Record{Kind: k, Event: e})
		}
	}
}

// P1.4: kinds that are none, ahead of all else.
func TestRecordKind(t *testing.T) {
	for _, k := range []int{0, -1, 8, 256 + api.Create, 1<<32 + api.Create, math.MinInt, math.MaxInt} {
		records(t, api.ErrForm, api.Record{Kind: k}, api.Record{Kind: k, Queue: -1, Epoch: -1, Peer: -1, Event: publish(-1, 0, 0)})
	}
}

// P1.4: numbers beyond their bounds, ahead of what is wrong with the event.
func TestRecordRange(t *testing.T) {
	for k, e := range kinds() {
		refused := func(r api.Record) {
			t.Helper()
			r.Kind, r.Event = k, e
			records(t, api.ErrRange, r)
			r.Event = api.Event{Kind: 99}
			records(t, api.ErrRange, r)
		}
		for _, n := range outside(api.MaxQueues - 1) {
			refused(api.Record{Queue: n})
		}
		for _, n := range outside(api.MaxEpoch) {
			refused(api.Record{Epoch: n})
		}
		for _, n := range outside(api.MaxNodes - 1) {
			refused(api.Record{Peer: n})
		}
	}
}

// P1.4: events that may not be, and events where there is none.
func TestRecordEvent(t *testing.T) {
	for k := range kinds() {
		if k == api.History || k == api.Import {
			records(t, api.ErrForm, api.Record{Kind: k}, api.Record{Kind: k, Event: api.Event{Kind: 5}},
				api.Record{Kind: k, Event: api.Event{Kind: api.Receive, Id: 1}})
			records(t, api.ErrRange, api.Record{Kind: k, Event: publish(0, -1, 0)}, api.Record{Kind: k, Event: ack(0, api.MaxId+1)})
			continue
		}
		records(t, api.ErrForm, api.Record{Kind: k, Event: publish(-1, 0, 0)}, api.Record{Kind: k, Event: api.Event{Kind: api.Receive}})
		for i := range 5 {
			r := api.Record{Kind: k}
			*eventFields(&r.Event)[i] = -1
			records(t, api.ErrForm, r)
		}
	}
}

// forms: records and their bytes.
func forms() map[api.Record]string {
	return map[api.Record]string{
		{Kind: api.Create, Queue: 2, Epoch: 1}:                                     words(1, 2, 1, 0),
		{Kind: api.Create}:                                                         words(1, 0, 0, 0),
		{Kind: api.Seal, Queue: 3, Epoch: api.MaxEpoch, Peer: 4}:                   words(3, 3, 1<<20, 4),
		{Kind: api.Begin, Queue: 1, Epoch: 70000, Peer: 2}:                         words(4, 1, 70000, 2),
		{Kind: api.Activate, Queue: 1, Epoch: 2}:                                   words(6, 1, 2, 0),
		{Kind: api.Forget, Queue: 1, Epoch: 2}:                                     words(7, 1, 2, 0),
		{Kind: api.History, Queue: 1, Epoch: 2, Peer: 3, Event: publish(3, 5, 77)}: words(2, 1, 2, 3, 1, 3, 5, 77, 0, 0),
		{Kind: api.Import, Queue: 3, Epoch: 9, Event: ack(6, 7)}:                   words(5, 3, 9, 0, 3, 0, 0, 0, 6, 7),
		{Kind: api.History, Event: api.Event{Kind: api.Receive}}:                   words(2, 0, 0, 0, 2, 0, 0, 0, 0, 0),
		{Kind: api.Import, Event: api.Event{Kind: api.Break}}:                      words(5, 0, 0, 0, 4, 0, 0, 0, 0, 0),
		{Kind: api.History, Event: publish(3, api.MaxId, api.MaxBody)}:             words(2, 0, 0, 0, 1, 3, 1<<30, 1000000, 0, 0),
		{Kind: api.Import, Event: ack(api.MaxEpoch, api.MaxId)}:                    words(5, 0, 0, 0, 3, 0, 0, 0, 1<<20, 1<<30),
	}
}

// P1.5: the order of the numbers.
func TestEncode(t *testing.T) {
	for r, want := range forms() {
		b, e := pack.Encode(r)
		same(t, "Encode", string(b), e, want, api.OK)
	}
}

// P1.6: records, whole; cut off at each place; with bytes behind.
func TestDecode(t *testing.T) {
	for want, s := range forms() {
		r, e := pack.Decode([]byte(s))
		same(t, "Decode", r, e, want, api.OK)
		for n := range len(s) {
			r, e := pack.Decode([]byte(s)[:n])
			same(t, "Decode of what is cut off at "+strconv.Itoa(n), r, e, api.Record{}, api.ErrShort)
		}
		for _, more := range []string{"\x00", "\xff", "\x00\x00\x00\x00", "\xff\xff\xff\xff", s} {
			r, e := pack.Decode([]byte(s + more))
			same(t, "Decode with bytes behind", r, e, api.Record{}, api.ErrForm)
		}
	}
}

// P1.6: number by number, so what is first is told; each number above MaxNumber.
func TestDecodeNumberByNumber(t *testing.T) {
	for _, s := range forms() {
		for i := 0; i < len(s); i += 4 {
			b := []byte(s)
			b[i] |= 0x80
			for _, c := range [][]byte{b, b[:i+4], append(slices.Clone(b), 1)} {
				r, e := pack.Decode(c)
				same(t, "Decode of a number that is too great", r, e, api.Record{}, api.ErrRange)
			}
			r, e := pack.Decode(b[:i+3])
			same(t, "Decode of a number that is cut off", r, e, api.Record{}, api.ErrShort)
		}
	}
}

// P1.6: what may not stand on a tape is ErrForm, of whatever kind the fault is.
func TestDecodeMayNotStand(t *testing.T) {
	for _, c := range []struct {
		bytes string
		e     api.Errno
	}{
		{words(0, 0, 0, 0), api.ErrForm},
		{words(8, 0, 0, 0), api.ErrForm},
		{words(9, 0, 0, 0), api.ErrForm},
		{words(api.MaxNumber, 0, 0, 0), api.ErrForm},
		{words(1, api.MaxQueues, 0, 0), api.ErrForm},
		{words(1, 0, api.MaxEpoch+1, 0), api.ErrForm},
		{words(1, 0, 0, api.MaxNodes), api.ErrForm},
		{words(2, 0, 0, 0, 0, 0, 0, 0, 0, 0), api.ErrForm},
		{words(2, 0, 0, 0, 5, 0, 0, 0, 0, 0), api.ErrForm},
		{words(2, 0, 0, 0, 1, api.MaxProducers, 0, 0, 0, 0), api.ErrForm},
		{words(2, 0, 0, 0, 1, 0, api.MaxId+1, 0, 0, 0), api.ErrForm},
		{words(2, 0, 0, 0, 1, 0, 0, api.MaxBody+1, 0, 0), api.ErrForm},
		{words(5, 0, 0, 0, 3, 0, 0, 0, api.MaxEpoch+1, 0), api.ErrForm},
		{words(5, 0, 0, 0, 3, 0, 0, 0, 0, api.MaxId+1), api.ErrForm},
		{words(5, 0, 0, 0, 2, 0, 0, 1, 0, 0), api.ErrForm},
		{words(1, 0, 0, 0, 2, 0, 0, 0, 0, 0), api.ErrForm},
		{words(9, 9, 9), api.ErrShort},
		{words(2, 9, 9, 9), api.ErrShort},
		{words(9, -1), api.ErrRange},
	} {
		r, e := pack.Decode([]byte(c.bytes))
		same(t, "Decode "+strconv.Quote(c.bytes), r, e, api.Record{}, c.e)
	}
	if r, e := pack.Decode(nil); r != (api.Record{}) || e != api.ErrShort {
		t.Error("Decode nil:", r, e)
	}
}

// What comes of it: no record has two forms: whatever is decoded is encoded just so. (P1.5, P1.6)
func FuzzOneForm(f *testing.F) {
	for _, s := range forms() {
		f.Add([]byte(s))
		f.Add([]byte(s + "\x00"))
		f.Add([]byte(s)[1:])
	}
	f.Fuzz(func(t *testing.T, b []byte) {
		was := slices.Clone(b)
		r, e := pack.Decode(b)
		if !bytes.Equal(b, was) {
			t.Errorf("Decode changed %v to %v", was, b)
		}
		if e != api.OK {
			if r != (api.Record{}) {
				t.Errorf("Decode %v: %v with %v", b, e, r)
			}
			return
		}
		if c, e := pack.Encode(r); e != api.OK || !bytes.Equal(b, c) {
			t.Errorf("%v is decoded, and encoded as %v, %v", b, c, e)
		}
	})
}

// What holds everywhere: answers share no memory, and what is handed in stays as it was, its spare room too.
func TestMemory(t *testing.T) {
	r := api.Record{Kind: api.History, Queue: 1, Epoch: 2, Event: publish(3, 5, 77)}
	a, _ := pack.Encode(r)
	b, _ := pack.Encode(r)
	x, _ := pack.Number(7)
	y, _ := pack.Number(7)
	for _, l := range [][]byte{a[:cap(a)], x[:cap(x)]} {
		for i := range l {
			l[i] = 0xee
		}
	}
	if string(b) != words(2, 1, 2, 0, 1, 3, 5, 77, 0, 0) || string(y) != word(7) {
		t.Error("two answers share memory:", b, y)
	}
	room := append(slices.Clone(b), 0xaa, 0xbb, 0xcc)
	was := slices.Clone(room)
	pack.Decode(room[:len(b)])
	pack.Take(room[:4])
	if !bytes.Equal(room, was) {
		t.Errorf("%v was changed to %v", was, room)
	}
}
