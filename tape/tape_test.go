package tape_test

import (
	"bytes"
	"encoding/binary"
	"hash/adler32"
	"math"
	"slices"
	"strconv"
	"testing"

	"berthshift/api"
	"berthshift/pack"
	"berthshift/tape"
)

// A record without an event has 16 bytes, one with an event 40; a frame has six more.
const (
	bareFrame  = 22
	eventFrame = 46
)

// framed bytes, by another way than the program's.
func framed(record string) string { return telling(len(record), record) }

// telling: a frame with its right sum that tells so many bytes, be there so many or not.
func telling(n int, record string) string {
	b := binary.BigEndian.AppendUint16(nil, uint16(n))
	b = append(b, record...)
	return string(binary.BigEndian.AppendUint32(b, adler32.Checksum(b)))
}

func words(l ...int) string {
	var b []byte
	for _, n := range l {
		b = binary.BigEndian.AppendUint32(b, uint32(n))
	}
	return string(b)
}

// onTape: a record, and its frame.
type onTape struct {
	record api.Record
	frame  string
}

// some records: with events and without; the third one's sum is above MaxNumber, so it needs all 32 bits.
func some() []onTape {
	return []onTape{
		{api.Record{Kind: api.Create, Queue: 2, Epoch: 1}, framed(words(1, 2, 1, 0))},
		{api.Record{Kind: api.History, Queue: 2, Epoch: 1, Event: api.Event{Kind: api.Publish, Producer: 3, Id: 5, Body: 77}},
			framed(words(2, 2, 1, 0, 1, 3, 5, 77, 0, 0))},
		{api.Record{Kind: api.Import, Queue: 3, Epoch: 0xfffff, Peer: 4, Event: api.Event{Kind: api.Publish, Producer: 3, Id: 0x3fffffff, Body: 0xeffff}},
			framed(words(5, 3, 0xfffff, 4, 1, 3, 0x3fffffff, 0xeffff, 0, 0))},
		{api.Record{Kind: api.Seal, Queue: 1, Epoch: api.MaxEpoch, Peer: 4}, framed(words(3, 1, 1<<20, 4))},
		{api.Record{Kind: api.Import, Event: api.Event{Kind: api.Ack, Handle: api.Handle{Epoch: 1, No: 300}}},
			framed(words(5, 0, 0, 0, 3, 0, 0, 0, 1, 300))},
		{api.Record{Kind: api.Forget}, framed(words(7, 0, 0, 0))},
	}
}

// whole tape of these, their records, and where each frame ends (0 first).
func whole(l []onTape) (string, []api.Record, []int) {
	s, ends := "", []int{0}
	var r []api.Record
	for _, x := range l {
		s, r = s+x.frame, append(r, x.record)
		ends = append(ends, len(s))
	}
	return s, r, ends
}

func of(data string, synced int) api.Tape { return api.Tape{Data: []byte(data), Synced: synced} }

// is: is an answer this tape, without an error?
func is(t *testing.T, what string, got api.Tape, e api.Errno, data string, synced int) {
	t.Helper()
	if e != api.OK || string(got.Data) != data || got.Synced != synced {
		t.Errorf("%s: %d bytes %x, synced %d, %v; want %d bytes %x, synced %d", what, len(got.Data), got.Data, got.Synced, e, len(data), data, synced)
	}
}

// refused: is an answer this error, and nothing beside?
func refused(t *testing.T, what string, got api.Tape, e, want api.Errno) {
	t.Helper()
	if e != want || len(got.Data) > 0 || got.Synced != 0 {
		t.Errorf("%s: %d bytes, synced %d, %v; want %v alone", what, len(got.Data), got.Synced, e, want)
	}
}

// reads: are these records on a tape, in so many bytes?
func reads(t *testing.T, what string, x api.Tape, want []api.Record, bytes int) {
	t.Helper()
	l, n, e := tape.Read(x)
	if e != api.OK || n != bytes || !slices.Equal(l, want) {
		t.Errorf("%s: Read: %v, %d, %v; want %v, %d", what, l, n, e, want, bytes)
	}
}

// P2.1: tapes that may not be, ahead of all else that is wrong: of the record, of keep, of the room.
func TestMayNotBe(t *testing.T) {
	data := make([]byte, api.MaxBytes+1)
	frame := []byte(some()[0].frame)
	for what, x := range map[string]api.Tape{
		"too long":               {Data: data},
		"too long, synced":       {Data: data, Synced: api.MaxBytes},
		"below 0":                {Data: frame, Synced: -1},
		"nothing, below 0":       {Synced: -1},
		"far below 0":            {Data: frame, Synced: math.MinInt},
		"more than there are":    {Data: frame, Synced: len(frame) + 1},
		"more than nothing":      {Synced: 1},
		"far more":               {Data: frame, Synced: math.MaxInt},
		"in the spare room":      {Data: frame[:21], Synced: 22},
		"full, and more synced":  {Data: data[:api.MaxBytes], Synced: api.MaxBytes + 1},
		"full, and synced below": {Data: data[:api.MaxBytes], Synced: -1},
	} {
		for _, r := range []api.Record{some()[0].record, some()[1].record, {}, {Kind: api.Create, Queue: -1}} {
			got, e := tape.Write(x, r)
			refused(t, what+": Write", got, e, api.ErrState)
		}
		for _, keep := range []int{0, 1, -1, math.MinInt, math.MaxInt} {
			got, e := tape.Crash(x, keep)
			refused(t, what+": Crash", got, e, api.ErrState)
		}
		got, e := tape.Sync(x)
		refused(t, what+": Sync", got, e, api.ErrState)
		got, e = tape.Repair(x)
		refused(t, what+": Repair", got, e, api.ErrState)
		if l, n, e := tape.Read(x); len(l) > 0 || n != 0 || e != api.ErrState {
			t.Errorf("%s: Read: %v, %d, %v", what, l, n, e)
		}
	}
}

// P2.1: tapes that only just may be: nothing, none synced, all synced, and as many bytes as there may be.
func TestMayBe(t *testing.T) {
	frame := some()[0].frame
	for _, n := range []int{0, 1, 21, 22, api.MaxBytes} {
		data := (frame + string(make([]byte, api.MaxBytes)))[:n]
		for _, synced := range []int{0, n / 2, n} {
			x := of(data, synced)
			got, e := tape.Sync(x)
			is(t, "Sync", got, e, data, n)
			got, e = tape.Crash(x, n)
			is(t, "Crash", got, e, data, n)
			end := min(n, bareFrame) / bareFrame * bareFrame // 0 where the frame is not whole
			reads(t, "at the edge", x, []api.Record{some()[0].record}[:end/bareFrame], end)
			got, e = tape.Repair(x)
			is(t, "Repair", got, e, data[:end], min(synced, end))
		}
	}
}

// P2.2: the examples, and each number beyond its modulus; held against the library's own.
func TestSum(t *testing.T) {
	for _, c := range []struct {
		bytes string
		want  int
	}{
		{"", 1},
		{"\x00", 1<<16 + 1},
		{"\x01\x02", 6*65536 + 4},
		{"\x02\x01", 7*65536 + 4},
		{"\xff", 256<<16 + 256},
		{"Wikipedia", 0x11e60398},
	} {
		if got := tape.Sum([]byte(c.bytes)); got != c.want {
			t.Errorf("Sum of %x: %d, want %d", c.bytes, got, c.want)
		}
	}
	for _, b := range []byte{0, 1, 0x7f, 0x80, 0xf1, 0xff} {
		l := bytes.Repeat([]byte{b}, 66000)
		for _, n := range []int{1, 22, 255, 256, 257, 258, 300, 361, 362, 363, 5552, 65520, 65521, 65522, 66000} {
			if got, want := tape.Sum(l[:n]), int(adler32.Checksum(l[:n])); got != want {
				t.Errorf("Sum of %d bytes %d: %d, want %d", n, b, got, want)
			}
		}
	}
	long := make([]byte, 1<<20) // longer than a tape may be: Sum takes it all the same
	for i := range long {
		long[i] = byte(i * i >> 3)
	}
	if got, want := tape.Sum(long), int(adler32.Checksum(long)); got != want {
		t.Errorf("Sum of %d bytes: %d, want %d", len(long), got, want)
	}
}

// P2.2: both numbers at their modulus: they begin again at 0, and 65520 stands.
func TestSumModulus(t *testing.T) {
	l := bytes.Repeat([]byte{0xff}, 256) // 1 + 256 * 255 = 65281
	for last, want := range map[byte]int{238: 65519, 239: 65520, 240: 0, 241: 1} {
		if got := tape.Sum(append(slices.Clone(l), last)) % 65536; got != want {
			t.Errorf("the first number behind %d: %d, want %d", last, got, want)
		}
	}
	// with noughts alone the first number is 1, and the second one counts
	for n, want := range map[int]int{65519: 65519, 65520: 65520, 65521: 0, 65522: 1} {
		if got := tape.Sum(make([]byte, n)); got != want*65536+1 {
			t.Errorf("the second number of %d noughts: %d, want %d", n, got/65536, want)
		}
	}
}

// P2.3: frames, one behind the other; nothing more is synced.
func TestWrite(t *testing.T) {
	for _, synced := range []int{0, 1, 3} {
		s := "abc" // what is there stays as it is, whatever it is
		x := of(s, synced)
		for _, w := range some() {
			s += w.frame
			var e api.Errno
			x, e = tape.Write(x, w.record)
			is(t, "Write", x, e, s, synced)
		}
	}
	x, e := tape.Write(api.Tape{}, some()[0].record)
	is(t, "the first one", x, e, "\x00\x10"+words(1, 2, 1, 0)+"\x01\x46\x00\x15", 0)
	if sum := tape.Sum([]byte(some()[2].frame[:eventFrame-4])); sum <= api.MaxNumber {
		t.Error("a sum above MaxNumber should be among those that are written:", sum)
	}
}

// P2.3: what Encode refuses is refused with the same error, also where there is no room.
func TestWriteRefuses(t *testing.T) {
	for _, r := range []api.Record{
		{}, {Kind: 8}, {Kind: math.MaxInt}, {Kind: api.Create, Queue: -1}, {Kind: api.Create, Queue: api.MaxQueues}, {Kind: api.Seal, Epoch: api.MaxEpoch + 1},
		{Kind: api.Begin, Peer: api.MaxNodes}, {Kind: api.Create, Event: api.Event{Id: 1}}, {Kind: api.History},
		{Kind: api.History, Event: api.Event{Kind: api.Publish, Body: -1}}, {Kind: api.Import, Event: api.Event{Kind: api.Receive, Body: 1}},
	} {
		_, want := pack.Encode(r)
		if want == api.OK {
			t.Errorf("%+v should be refused", r)
		}
		for _, n := range []int{0, 30, api.MaxBytes} {
			got, e := tape.Write(api.Tape{Data: make([]byte, n), Synced: n / 2}, r)
			refused(t, "Write on "+strconv.Itoa(n)+" bytes", got, e, want)
		}
	}
}

// P2.3: a tape gets full to the last byte, and no further.
func TestWriteFull(t *testing.T) {
	for _, c := range []struct {
		w    onTape
		size int
	}{{some()[0], bareFrame}, {some()[1], eventFrame}} {
		s := string(make([]byte, api.MaxBytes))
		for _, n := range []int{api.MaxBytes - c.size - 1, api.MaxBytes - c.size} {
			got, e := tape.Write(of(s[:n], 7), c.w.record)
			is(t, "there is room", got, e, s[:n]+c.w.frame, 7)
		}
		for _, n := range []int{api.MaxBytes - c.size + 1, api.MaxBytes - 1, api.MaxBytes} {
			got, e := tape.Write(of(s[:n], 7), c.w.record)
			refused(t, "there is no room", got, e, api.ErrFull)
		}
	}
}

// P2.3, P2.6: a tape that is full of records gives them all.
func TestReadFull(t *testing.T) {
	w := some()[0]
	var want []api.Record
	x := api.Tape{}
	for {
		y, e := tape.Write(x, w.record)
		if e != api.OK {
			refused(t, "full", y, e, api.ErrFull)
			break
		}
		x, want = y, append(want, w.record)
	}
	if len(want) != api.MaxBytes/bareFrame {
		t.Errorf("%d records on a full tape, want %d", len(want), api.MaxBytes/bareFrame)
	}
	reads(t, "full", x, want, len(want)*bareFrame)
}

// P2.4
func TestSync(t *testing.T) {
	for _, s := range []string{"", "a", "abc", some()[1].frame} {
		for synced := range len(s) + 1 {
			got, e := tape.Sync(of(s, synced))
			is(t, "Sync", got, e, s, len(s))
		}
	}
}

// P2.5: each number of bytes that were synced, with each keep from nothing to more than all.
func TestCrash(t *testing.T) {
	s := "abcdefg"
	for synced := range len(s) + 1 {
		for _, keep := range []int{0, 1, 2, 3, 4, 5, 6, 7, 8, 1 << 32, math.MaxInt - 1, math.MaxInt} {
			left := len(s)
			if keep < len(s)-synced {
				left = synced + keep
			}
			got, e := tape.Crash(of(s, synced), keep)
			is(t, "Crash with "+strconv.Itoa(synced)+", "+strconv.Itoa(keep), got, e, s[:left], left)
		}
		for _, keep := range []int{-1, -7, -1 << 32, math.MinInt} {
			got, e := tape.Crash(of(s, synced), keep)
			refused(t, "Crash with keep "+strconv.Itoa(keep), got, e, api.ErrRange)
		}
	}
	got, e := tape.Crash(api.Tape{}, 3)
	is(t, "Crash of nothing", got, e, "", 0)
}

// P2.6, P2.7: a tape that is torn at each place, within a frame or between two; whether it is synced is nothing to Read.
func TestTorn(t *testing.T) {
	s, records, ends := whole(some())
	for n := range len(s) + 1 {
		k := 0 // how many frames are whole
		for k+1 < len(ends) && ends[k+1] <= n {
			k++
		}
		for _, synced := range []int{0, n / 2, ends[k], n} {
			x := of(s[:n], synced)
			reads(t, "torn at "+strconv.Itoa(n), x, records[:k], ends[k])
			got, e := tape.Repair(x)
			is(t, "Repair of what is torn at "+strconv.Itoa(n), got, e, s[:ends[k]], min(synced, ends[k]))
		}
		// what is torn off must not be read from the spare room
		x := api.Tape{Data: []byte(s)[:n]}
		reads(t, "torn at "+strconv.Itoa(n)+", with room", x, records[:k], ends[k])
	}
}

// P2.6: one bit is wrong, wherever: its frame is no more, and none behind it is read.
func TestReadWrongBit(t *testing.T) {
	s, records, ends := whole(some())
	for i := range s {
		k := 0
		for ends[k+1] <= i {
			k++
		}
		for bit := range 8 {
			b := []byte(s)
			b[i] ^= 1 << bit
			reads(t, "wrong at "+strconv.Itoa(i), api.Tape{Data: b}, records[:k], ends[k])
		}
	}
}

// P2.6: frames that are whole, of what Decode does not take; and such that tell another number of bytes.
func TestReadNoFrame(t *testing.T) {
	good := some()[0]
	for what, s := range map[string]string{
		"two noughts":           "\x00\x00",
		"one nought":            "\x00",
		"noughts":               string(make([]byte, 100)),
		"no record":             framed(""),
		"no kind":               framed(words(0, 0, 0, 0)),
		"another kind":          framed(words(8, 0, 0, 0)),
		"no such queue":         framed(words(1, api.MaxQueues, 0, 0)),
		"a number too great":    framed(words(1, 0, -1, 0)),
		"three numbers":         framed(words(1, 0, 0)),
		"five numbers":          framed(words(1, 0, 0, 0, 0)),
		"a byte behind":         framed(words(1, 0, 0, 0) + "\x00"),
		"no event":              framed(words(2, 0, 0, 0)),
		"an event too much":     framed(words(1, 0, 0, 0, 2, 0, 0, 0, 0, 0)),
		"an event of no kind":   framed(words(5, 0, 0, 0, 9, 0, 0, 0, 0, 0)),
		"long":                  framed(words(1, 0, 0, 0) + string(make([]byte, 256))),
		"the longest":           framed(words(1, 0, 0, 0) + string(make([]byte, 65535-16))),
		"ends at the number":    "\xff\xff" + words(1, 0, 0, 0),
		"no sum":                good.frame[:bareFrame-4],
		"a piece of a sum":      good.frame[:bareFrame-1],
		"another sum":           good.frame[:bareFrame-4] + words(1),
		"the record's sum":      good.frame[:bareFrame-4] + words(int(adler32.Checksum([]byte(good.frame[2:18])))),
		"a sum, the lowest 1st": good.frame[:bareFrame-4] + "\x15\x00\x46\x01",
		"256 too many":          telling(256+16, words(1, 0, 0, 0)),
		"one too many":          telling(17, words(1, 0, 0, 0)),
		"one too few":           telling(15, words(1, 0, 0, 0)),
		"a length, turned":      "\x10\x00" + good.frame[2:],
	} {
		reads(t, what, of(s, 0), nil, 0)
		reads(t, what+", and more", of(s+good.frame, len(s)), nil, 0)
		reads(t, what+", behind a good one", of(good.frame+s+good.frame, 3), []api.Record{good.record}, bareFrame)
		got, e := tape.Repair(of(good.frame+s+good.frame, bareFrame+1))
		is(t, "Repair: "+what, got, e, good.frame, bareFrame)
	}
}

// What comes of it: behind a crash all records that were synced are read; what was torn is cut off, and more can be written.
func TestOutlasts(t *testing.T) {
	s, records, ends := whole(some())
	for synced := range ends {
		x := of(s[:ends[synced]], 0)
		x, _ = tape.Sync(x)
		for _, w := range some()[synced:] {
			x, _ = tape.Write(x, w.record)
		}
		for keep := range len(s) - ends[synced] + 2 {
			y, e := tape.Crash(x, keep)
			if e != api.OK || y.Synced != len(y.Data) {
				t.Fatal("Crash:", y.Synced, len(y.Data), e)
			}
			l, n, _ := tape.Read(y)
			if len(l) < synced || !slices.Equal(l, records[:len(l)]) || n != ends[len(l)] {
				t.Fatalf("synced %d, kept %d: %v, %d", synced, keep, l, n)
			}
			y, e = tape.Repair(y)
			is(t, "Repair", y, e, s[:n], n)
			more := some()[3]
			y, e = tape.Write(y, more.record)
			is(t, "Write", y, e, s[:n]+more.frame, n)
			reads(t, "more", y, append(slices.Clone(l), more.record), n+bareFrame)
		}
	}
}

// Whatever bytes there are: what is read is written just so. (P2.3, P2.6, P2.7)
func FuzzRead(f *testing.F) {
	s, _, _ := whole(some())
	f.Add([]byte(s), 7)
	f.Add([]byte(s[:len(s)-1]), 0)
	f.Add([]byte(s[1:]), len(s)-1)
	f.Fuzz(func(t *testing.T, b []byte, synced int) {
		x := api.Tape{Data: b, Synced: synced}
		was := slices.Clone(b)
		l, n, e := tape.Read(x)
		y, g := tape.Repair(x)
		if !bytes.Equal(b, was) {
			t.Fatal("the bytes were changed")
		}
		if len(b) > api.MaxBytes || synced < 0 || synced > len(b) {
			refused(t, "Repair", y, g, api.ErrState)
			return
		}
		again := api.Tape{}
		for _, r := range l {
			again, _ = tape.Write(again, r)
		}
		if e != api.OK || !bytes.Equal(again.Data, b[:n]) {
			t.Fatalf("%v, %d, %v: %x, written %x", l, n, e, b, again.Data)
		}
		is(t, "Repair", y, g, string(b[:n]), min(synced, n))
		reads(t, "repaired", y, l, n)
	})
}

// spoil a list and its spare room.
func spoil(b []byte) {
	b = b[:cap(b)]
	for i := range b {
		b[i] = 0xee
	}
}

// What holds everywhere: answers share no memory, and what is handed in stays as it was, its spare room too.
func TestMemory(t *testing.T) {
	s, _, _ := whole(some())
	room := []byte(s + s)
	x := api.Tape{Data: room[:len(s)], Synced: 30}
	for what, call := range map[string]func() api.Tape{
		"Write":        func() api.Tape { y, _ := tape.Write(x, some()[0].record); return y },
		"Sync":         func() api.Tape { y, _ := tape.Sync(x); return y },
		"Crash":        func() api.Tape { y, _ := tape.Crash(x, 50); return y },
		"Crash, all":   func() api.Tape { y, _ := tape.Crash(x, 1000); return y },
		"Repair":       func() api.Tape { y, _ := tape.Repair(x); return y },
		"Repair, torn": func() api.Tape { y, _ := tape.Repair(api.Tape{Data: x.Data[:60]}); return y },
		"Repair, none": func() api.Tape { y, _ := tape.Repair(api.Tape{Data: x.Data[1:9]}); return y },
		"Crash, none":  func() api.Tape { y, _ := tape.Crash(api.Tape{Data: x.Data[:9]}, 0); return y },
		"Sync, none":   func() api.Tape { y, _ := tape.Sync(api.Tape{Data: x.Data[:0]}); return y },
	} {
		a, b := call(), call()
		was := string(b.Data)
		spoil(a.Data)
		if string(b.Data) != was {
			t.Error(what, "answers twice with the same memory")
		}
		spoil(b.Data)
		if string(room) != s+s {
			t.Fatal(what, "changes what was handed in, or hands it out")
		}
	}
	a, _, _ := tape.Read(x)
	b, _, _ := tape.Read(x)
	want := slices.Clone(b)
	clear(a[:cap(a)])
	if !slices.Equal(b, want) || string(room) != s+s {
		t.Error("Read shares memory")
	}
}
