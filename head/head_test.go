package head_test

import (
	"bytes"
	"testing"

	"girandole/api"
	"girandole/head"
)

// numbers is how many bytes stand ahead of a body.
const numbers = 10

// text is n bytes, none of them 0.
func text(n int) []byte {
	b := make([]byte, n)
	for i := range b {
		b[i] = byte(1 + i*7%255)
	}
	return b
}

// draw is a run of numbers that is the same each time.
type draw uint32

func (r *draw) next() uint32 {
	*r = *r*1664525 + 1013904223
	return uint32(*r)>>16 | uint32(*r)<<16
}

func (r *draw) bytes(n int) []byte {
	b := make([]byte, n)
	for i := range b {
		b[i] = byte(r.next())
	}
	return b
}

func (r *draw) data(n int) api.Data {
	return api.Data{Seq: uint16(r.next()), Stamp: uint16(r.next()), Frame: r.next(), Symbol: uint16(r.next()), Body: r.bytes(n)}
}

// laid is what the chapter asks of Put, by division: none of the program's shifts.
func laid(d api.Data) []byte {
	b := []byte{byte(d.Seq / 256), byte(d.Seq % 256), byte(d.Stamp / 256), byte(d.Stamp % 256)}
	b = append(b, byte(d.Frame/16777216), byte(d.Frame/65536%256), byte(d.Frame/256%256), byte(d.Frame%256))
	b = append(b, byte(d.Symbol/256), byte(d.Symbol%256))
	return append(b, d.Body...)
}

func same(x, y api.Data) bool {
	return x.Seq == y.Seq && x.Stamp == y.Stamp && x.Frame == y.Frame && x.Symbol == y.Symbol && bytes.Equal(x.Body, y.Body)
}

// spoilt turns all bytes of b and writes over its spare room.
func spoilt(b []byte) {
	b = b[:cap(b)]
	for i := range b {
		b[i] ^= 0xA5
	}
}

// putOf is what is put where it must be.
func putOf(t *testing.T, d api.Data) []byte {
	t.Helper()
	b, e := head.Put(d)
	if e != api.OK {
		t.Fatalf("Put of %v: error %d", d, e)
	}
	return b
}

// takenOf is what is taken where it must be.
func takenOf(t *testing.T, b []byte) api.Data {
	t.Helper()
	d, e := head.Take(b)
	if e != api.OK {
		t.Fatalf("Take of %x: error %d", b, e)
	}
	return d
}

// goes asks that d is put as want, and that want is taken as d.
func goes(t *testing.T, d api.Data, want []byte) {
	t.Helper()
	if b := putOf(t, d); !bytes.Equal(b, want) {
		t.Errorf("Put of %v: %x, not %x", d, b, want)
	}
	if taken := takenOf(t, want); !same(taken, d) {
		t.Errorf("Take of %x: %v, not %v", want, taken, d)
	}
}

// notPut asks for ErrSize, and nothing beside it.
func notPut(t *testing.T, d api.Data) {
	t.Helper()
	if b, e := head.Put(d); b != nil || e != api.ErrSize {
		t.Errorf("Put of a body of %d bytes: %x, error %d", len(d.Body), b, e)
	}
}

// notTaken asks for ErrForm, and zero data beside it.
func notTaken(t *testing.T, b []byte) {
	t.Helper()
	if d, e := head.Take(b); !same(d, api.Data{}) || d.Body != nil || e != api.ErrForm {
		t.Errorf("Take of %d bytes: %v, error %d", len(b), d, e)
	}
}

// Examples: Put of a body of one byte: eleven bytes.
func TestExample(t *testing.T) {
	if b := putOf(t, api.Data{Body: []byte{7}}); !bytes.Equal(b, []byte{0, 0, 0, 0, 0, 0, 0, 0, 0, 0, 7}) {
		t.Errorf("%x", b)
	}
}

// P9.1 Put, Take: bytes that were written down ahead.
func TestKnownData(t *testing.T) {
	for _, c := range []struct {
		d    api.Data
		want string
	}{
		{api.Data{Seq: 0x0102, Stamp: 0x0304, Frame: 0x05060708, Symbol: 0x090A, Body: []byte("x")}, "\x01\x02\x03\x04\x05\x06\x07\x08\x09\x0Ax"},
		{api.Data{Seq: 1000, Stamp: 2000, Frame: 3000000000, Symbol: 95, Body: []byte("hello")}, "\x03\xE8\x07\xD0\xB2\xD0\x5E\x00\x00\x5Fhello"},
		{api.Data{Seq: 0xFEDC, Stamp: 0xBA98, Frame: 0x76543210, Symbol: 0xF0E1, Body: []byte("\x00\xFF\x00")}, "\xFE\xDC\xBA\x98\x76\x54\x32\x10\xF0\xE1\x00\xFF\x00"},
		{api.Data{Body: []byte("\x00")}, "\x00\x00\x00\x00\x00\x00\x00\x00\x00\x00\x00"},
		{api.Data{Seq: 0xFFFF, Stamp: 0xFFFF, Frame: 0xFFFFFFFF, Symbol: 0xFFFF, Body: []byte("\xFF")}, "\xFF\xFF\xFF\xFF\xFF\xFF\xFF\xFF\xFF\xFF\xFF"},
	} {
		goes(t, c.d, []byte(c.want))
	}
}

// P9.1 Put, Take: each number by itself, at its own place, the highest byte first, and noughts where the others stand.
func TestEachNumberAtItsOwnPlace(t *testing.T) {
	for _, c := range []struct {
		d     api.Data
		place int
		want  string
	}{
		{api.Data{Seq: 0}, 0, "\x00\x00"}, {api.Data{Seq: 1}, 0, "\x00\x01"}, {api.Data{Seq: 65535}, 0, "\xFF\xFF"}, {api.Data{Seq: 0xA1B2}, 0, "\xA1\xB2"},
		{api.Data{Stamp: 0}, 2, "\x00\x00"}, {api.Data{Stamp: 1}, 2, "\x00\x01"}, {api.Data{Stamp: 65535}, 2, "\xFF\xFF"}, {api.Data{Stamp: 0xC3D4}, 2, "\xC3\xD4"},
		{api.Data{Frame: 0}, 4, "\x00\x00\x00\x00"}, {api.Data{Frame: 1}, 4, "\x00\x00\x00\x01"},
		{api.Data{Frame: 4294967295}, 4, "\xFF\xFF\xFF\xFF"}, {api.Data{Frame: 0x9A8B7C6D}, 4, "\x9A\x8B\x7C\x6D"},
		{api.Data{Frame: 0x01000000}, 4, "\x01\x00\x00\x00"}, {api.Data{Frame: 0x00010000}, 4, "\x00\x01\x00\x00"},
		{api.Data{Symbol: 0}, 8, "\x00\x00"}, {api.Data{Symbol: 1}, 8, "\x00\x01"}, {api.Data{Symbol: 65535}, 8, "\xFF\xFF"}, {api.Data{Symbol: 0xE5F6}, 8, "\xE5\xF6"},
	} {
		c.d.Body = []byte{0x5A}
		want := make([]byte, numbers+1)
		want[numbers] = 0x5A
		copy(want[c.place:], c.want)
		goes(t, c.d, want)
	}
}

// P9.1 Put, Take: all that Seq, Stamp and Symbol can be, and Frame in each half.
func TestAllNumbers(t *testing.T) {
	for i := range 65536 {
		x := uint16(i)
		for _, d := range []api.Data{{Seq: x}, {Stamp: x}, {Frame: uint32(x)}, {Frame: uint32(x) << 16}, {Symbol: x}} {
			d.Body = []byte{byte(i)}
			goes(t, d, laid(d))
		}
	}
}

// P9.1 Put, Take: each bit by itself, of the numbers and of bodies of either end's length.
func TestEachBit(t *testing.T) {
	for _, n := range []int{numbers + 1, numbers + api.MaxSymbol} {
		for i := range n * 8 {
			b := make([]byte, n)
			b[i/8] = 1 << (i % 8)
			d := takenOf(t, b)
			if same(d, takenOf(t, make([]byte, n))) {
				t.Errorf("bit %d of %d bytes is lost", i, n)
			}
			goes(t, d, b)
		}
	}
}

// P9.1 Put: each length that a body may have: ten bytes more, the body at the end.
func TestBodiesOfEachLength(t *testing.T) {
	for n := 1; n <= api.MaxSymbol; n++ {
		d := api.Data{Seq: 0x1122, Stamp: 0x3344, Frame: 0x55667788, Symbol: 0x99AA, Body: text(n)}
		b := putOf(t, d)
		if len(b) != numbers+n || !bytes.Equal(b[numbers:], text(n)) {
			t.Errorf("a body of %d bytes: %x", n, b)
		}
		goes(t, d, laid(d))
		d.Body = make([]byte, n)
		goes(t, d, laid(d))
	}
}

// P9.1 Put: ErrSize: no body, one without bytes, one that is too long, whatever the numbers are.
func TestBodiesThatAreNotPut(t *testing.T) {
	for _, d := range []api.Data{{}, {Seq: 1, Stamp: 2, Frame: 3, Symbol: 4}, {Seq: 0xFFFF, Stamp: 0xFFFF, Frame: 0xFFFFFFFF, Symbol: 0xFFFF}} {
		for _, body := range [][]byte{
			nil, {}, text(20)[:0],
			text(api.MaxSymbol + 1), make([]byte, api.MaxSymbol+1), text(2 * api.MaxSymbol)[:api.MaxSymbol+1],
			text(api.MaxSymbol + 2), text(128), text(255), text(256), text(257), text(256 + api.MaxSymbol), text(1 << 16), text(1<<16 + 1), text(1 << 20),
		} {
			d.Body = body
			notPut(t, d)
		}
	}
}

// P9.1 Take: ErrForm: no bytes, and so few that none are left for a body, whatever they are and whatever stands behind them in the same room.
func TestTooFewBytes(t *testing.T) {
	notTaken(t, nil)
	notTaken(t, []byte{})
	for n := range numbers + 1 {
		notTaken(t, make([]byte, n))
		notTaken(t, text(n))
		notTaken(t, bytes.Repeat([]byte{0xFF}, n))
		notTaken(t, text(100)[:n])
		notTaken(t, text(100)[:n:n])
	}
}

// P9.1 Take: eleven bytes, MaxSymbol bytes behind the first ten, and each length between: data.
func TestEnoughBytes(t *testing.T) {
	for n := 1; n <= api.MaxSymbol; n++ {
		b := append([]byte{0x21, 0x32, 0x43, 0x54, 0x65, 0x76, 0x87, 0x98, 0xA9, 0xBA}, text(n)...)
		want := api.Data{Seq: 0x2132, Stamp: 0x4354, Frame: 0x65768798, Symbol: 0xA9BA, Body: text(n)}
		if d := takenOf(t, b); !same(d, want) {
			t.Errorf("a body of %d bytes: %v", n, d)
		}
		if d := takenOf(t, append(b, text(100)...)[:len(b)]); !same(d, want) {
			t.Errorf("a body of %d bytes, more of them behind it: %v", n, d)
		}
	}
}

// P9.1 Take: ErrForm: one byte more than a body may have, and more.
func TestTooManyBytes(t *testing.T) {
	for n := numbers + api.MaxSymbol + 1; n <= 600; n++ {
		notTaken(t, make([]byte, n))
		notTaken(t, text(n))
	}
	for _, n := range []int{1 << 16, 1<<16 + 11, 1<<16 + 74, 1 << 20} {
		notTaken(t, text(n))
	}
}

// P9.1, 'What follows': what is put is taken, over many drawn data.
func TestWhatIsPutIsTaken(t *testing.T) {
	r := draw(9)
	for i := range 50000 {
		d := r.data(1 + i%api.MaxSymbol)
		goes(t, d, laid(d))
		if taken := takenOf(t, putOf(t, d)); !same(taken, d) {
			t.Fatalf("%v is taken as %v", d, taken)
		}
	}
}

// P9.1 Take: what is taken is put as those bytes; what is not taken is none that could be put. Over many drawn bytes, of lengths that may be and lengths that may not.
func TestWhatIsTakenIsPutAsThoseBytes(t *testing.T) {
	r := draw(19)
	for i := range 50000 {
		b := r.bytes(i % (numbers + api.MaxSymbol + 8))
		if len(b) <= numbers || len(b) > numbers+api.MaxSymbol {
			notTaken(t, b)
			continue
		}
		if again := putOf(t, takenOf(t, b)); !bytes.Equal(again, b) {
			t.Fatalf("%x is put as %x", b, again)
		}
	}
}

// R3: Put leaves the body as it was, and what stands ahead of it and behind it in the same room too.
func TestPutLeavesTheBodyAsItWas(t *testing.T) {
	room := text(200)
	for n := range api.MaxSymbol + 3 {
		d := api.Data{Seq: 1, Stamp: 2, Frame: 3, Symbol: 4, Body: room[20 : 20+n]}
		b, _ := head.Put(d)
		spoilt(b)
		if !bytes.Equal(room, text(200)) {
			t.Fatalf("a body of %d bytes: its room was changed: %x", n, room)
		}
	}
}

// R3: Put keeps nothing of the body: who turns it turns nothing that was put, and two answers share nothing.
func TestWhatIsPutIsNewMemory(t *testing.T) {
	for n := 1; n <= api.MaxSymbol; n++ {
		d := api.Data{Seq: 1, Stamp: 2, Frame: 3, Symbol: 4, Body: text(n)}
		want := laid(d)
		first, second := putOf(t, d), putOf(t, d)
		spoilt(first)
		if !bytes.Equal(second, want) {
			t.Fatalf("a body of %d bytes: two answers share memory", n)
		}
		spoilt(d.Body)
		if !bytes.Equal(second, want) {
			t.Fatalf("a body of %d bytes: it was kept", n)
		}
	}
}

// R3: Take leaves the bytes as they were, and what stands ahead of them and behind them in the same room too.
func TestTakeLeavesTheBytesAsTheyWere(t *testing.T) {
	room := text(200)
	for n := range numbers + api.MaxSymbol + 3 {
		d, _ := head.Take(room[20 : 20+n])
		spoilt(d.Body)
		if !bytes.Equal(room, text(200)) {
			t.Fatalf("%d bytes: their room was changed: %x", n, room)
		}
	}
}

// R3: Take keeps nothing of the bytes: who turns them turns no body, and two answers share nothing.
func TestWhatIsTakenIsNewMemory(t *testing.T) {
	for n := 1; n <= api.MaxSymbol; n++ {
		b := text(numbers + n)
		want := bytes.Clone(b[numbers:])
		first, second := takenOf(t, b), takenOf(t, b)
		spoilt(first.Body)
		if !bytes.Equal(second.Body, want) {
			t.Fatalf("a body of %d bytes: two answers share memory", n)
		}
		spoilt(b)
		if !bytes.Equal(second.Body, want) {
			t.Fatalf("a body of %d bytes: the bytes were kept", n)
		}
	}
}

// R4, W6: a call answers the same, whatever was asked and refused between.
func TestCallsAreTheSameEachTime(t *testing.T) {
	d := api.Data{Seq: 0x1234, Stamp: 0x5678, Frame: 0x9ABCDEF0, Symbol: 0x4321, Body: text(5)}
	for n := range 100 {
		head.Put(api.Data{Seq: uint16(n), Body: text(n)})
		head.Take(text(n))
		head.Take(nil)
		goes(t, d, laid(d))
		notPut(t, api.Data{Seq: 0x1234})
		notTaken(t, text(numbers))
	}
}
