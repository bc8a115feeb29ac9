package pack_test

import (
	"bytes"
	"encoding/hex"
	"math"
	"slices"
	"testing"

	"girandole/api"
	"girandole/basin"
	"girandole/basis"
	"girandole/dice"
	"girandole/field"
	"girandole/fount"
	"girandole/pack"
	"girandole/packet"
)

const hello = "hello, world"

// text is n bytes, none of them 0, so that what is filled up can be told from them.
func text(n int) []byte {
	b := make([]byte, n)
	for i := range b {
		b[i] = byte(1 + i*7%255)
	}
	return b
}

// draw is a run of numbers that is the same each time.
type draw uint32

func (r *draw) next() uint32 {
	*r = *r*1664525 + 1013904223
	return uint32(*r)>>16 | uint32(*r)<<16
}

// below is one from 0 to n - 1.
func (r *draw) below(n int) int { return int(r.next() % uint32(n)) }

func (r *draw) bytes(n int) []byte {
	b := make([]byte, n)
	for i := range b {
		b[i] = byte(r.next())
	}
	return b
}

// count is how many symbols of so many bytes n bytes have.
func count(n, symbol int) int { return (n + symbol - 1) / symbol }

// allOf is the numbers from 0 to n - 1.
func allOf(n int) []int {
	l := make([]int, n)
	for i := range l {
		l[i] = i
	}
	return l
}

// body is the one that symbol id asks for: a piece of b's own, filled up with noughts, or what fount says.
func body(t *testing.T, f *field.Field, frame uint32, b []byte, symbol, id int) []byte {
	t.Helper()
	if id < count(len(b), symbol) {
		s := make([]byte, symbol)
		copy(s, b[id*symbol:])
		return s
	}
	s, ok := fount.Symbol(f, frame, b, symbol, id)
	if !ok {
		t.Fatalf("fount says no of symbol %d", id)
	}
	return s
}

// want is what is asked for, packet by packet.
func want(t *testing.T, f *field.Field, frame uint32, b []byte, symbol int, ids []int, seq, stamp uint16) []api.Data {
	t.Helper()
	var l []api.Data
	for i, id := range ids {
		l = append(l, api.Data{
			Seq:    uint16((int(seq) + i) % 65536),
			Stamp:  stamp,
			Frame:  frame,
			Symbol: uint16(id),
			Body:   body(t, f, frame, b, symbol, id),
		})
	}
	return l
}

func sameData(x, y api.Data) bool {
	return x.Seq == y.Seq && x.Stamp == y.Stamp && x.Frame == y.Frame && x.Symbol == y.Symbol && bytes.Equal(x.Body, y.Body)
}

func same(x, y []api.Data) bool { return slices.EqualFunc(x, y, sameData) }

// spoilt turns all bytes of b, and of its spare room.
func spoilt(b []byte) {
	b = b[:cap(b)]
	for i := range b {
		b[i] ^= 0xFF
	}
}

// packsOf are the packets where there must be some.
func packsOf(t *testing.T, f *field.Field, fr api.Frame, b []byte, symbol int, ids []int, seq, stamp uint16) []api.Data {
	t.Helper()
	l, ok := pack.Packets(f, fr, b, symbol, ids, seq, stamp)
	if !ok || len(l) != len(ids) {
		t.Fatalf("frame %d, %d bytes by %d, %d ids: %d packets, %v", fr.ID, len(b), symbol, len(ids), len(l), ok)
	}
	return l
}

// packsAre asks for the packets that the chapter asks for.
func packsAre(t *testing.T, f *field.Field, frame uint32, b []byte, symbol int, ids []int, seq, stamp uint16) {
	t.Helper()
	l := packsOf(t, f, api.Frame{ID: frame, Size: len(b)}, b, symbol, ids, seq, stamp)
	asked := want(t, f, frame, b, symbol, ids, seq, stamp)
	for i := range l {
		if !sameData(l[i], asked[i]) {
			t.Fatalf("frame %d, %d bytes by %d, at %d: %v, not %v", frame, len(b), symbol, i, l[i], asked[i])
		}
	}
}

// none asks for a yes, and no data.
func none(t *testing.T, f *field.Field, fr api.Frame, b []byte, symbol int) {
	t.Helper()
	for _, ids := range [][]int{nil, {}, []int{3, 0, -1}[:0]} {
		if l, ok := pack.Packets(f, fr, b, symbol, ids, 7, 9); !ok || len(l) != 0 {
			t.Errorf("frame %d, Size %d, %d bytes by %d, no ids: %v, %v", fr.ID, fr.Size, len(b), symbol, l, ok)
		}
	}
}

// refused asks for no, and nothing beside it.
func refused(t *testing.T, f *field.Field, fr api.Frame, b []byte, symbol int, ids []int) {
	t.Helper()
	for _, seq := range []uint16{0, 65535} {
		if l, ok := pack.Packets(f, fr, b, symbol, ids, seq, 9); ok || l != nil {
			t.Errorf("frame %d, Size %d, %d bytes by %d, ids %v: %v, %v", fr.ID, fr.Size, len(b), symbol, ids, l, ok)
		}
	}
}

// past are ids that no text has, some of which fewer bits would take for one that it has.
func past(k int) []int {
	return []int{
		-1, -2, -k, -64, -65, -65535, -65536, -1 << 31, -1 << 32, -1<<32 + 1, math.MinInt, math.MinInt + 1, math.MinInt + 64,
		k + api.MaxRepair, k + api.MaxRepair + 1, 255 + k, 256, 257, 65535, 65536, 65537, 1 << 31, 1<<32 - 1, 1 << 32, 1<<32 + 1,
		math.MaxInt - 65535, math.MaxInt - 1, math.MaxInt,
	}
}

// farNumbers are those that neither a Size nor a symbol may be, some of which fewer bits would take for one that may.
func farNumbers() []int {
	return []int{
		math.MinInt, math.MinInt + 1, math.MinInt + 12, -1 << 32, -1<<32 + 5, -1<<32 + 12, -65536, -65531, -256, -251, -12, -5, -2, -1,
		1 << 16, 1<<16 + 5, 1<<16 + 12, 1 << 32, 1<<32 + 5, 1<<32 + 12, math.MaxInt - 1, math.MaxInt,
	}
}

// Examples: ids 0, 1: two packets.
func TestExample(t *testing.T) {
	packsAre(t, field.New(), 77, []byte(hello), 5, []int{0, 1}, 0, 0)
}

// P15.1: packets that were worked out ahead, by other means than these tests'.
func TestKnownPackets(t *testing.T) {
	l := packsOf(t, field.New(), api.Frame{ID: 77, Size: len(hello)}, []byte(hello), 5, []int{0, 66, 2, 3, 0, 4, 1}, 65533, 513)
	for i, c := range []struct {
		seq, symbol uint16
		body        string
	}{
		{65533, 0, "68656c6c6f"},
		{65534, 66, "5a6312a697"},
		{65535, 2, "6c64000000"},
		{0, 3, "bcc620b97c"},
		{1, 0, "68656c6c6f"},
		{2, 4, "09f67d6365"},
		{3, 1, "2c20776f72"},
	} {
		d := l[i]
		if d.Seq != c.seq || d.Stamp != 513 || d.Frame != 77 || d.Symbol != c.symbol || hex.EncodeToString(d.Body) != c.body {
			t.Errorf("at %d: %v, not %v", i, d, c)
		}
	}
}

// P15.1: each symbol of texts of each k, the last piece full, or filled up by one byte or some, or by all but one.
func TestEachSymbolWithinTheBounds(t *testing.T) {
	f := field.New()
	for _, symbol := range []int{1, 2, 5, 63, 64} {
		for k := 1; k <= api.MaxSource; k++ {
			for _, n := range []int{k * symbol, k*symbol - symbol/2, (k-1)*symbol + 1} {
				packsAre(t, f, uint32(k), text(n), symbol, allOf(k+api.MaxRepair), uint16(n), uint16(symbol))
			}
		}
	}
}

// P15.1: each length that a symbol may have, with the least text and the greatest.
func TestEachLengthOfASymbol(t *testing.T) {
	f := field.New()
	for symbol := 1; symbol <= api.MaxSymbol; symbol++ {
		packsAre(t, f, 5, text(1), symbol, []int{0, 1, api.MaxRepair}, 1, 2)
		packsAre(t, f, 5, text(symbol), symbol, []int{api.MaxRepair, 1, 0}, 1, 2)
		packsAre(t, f, 5, text(symbol*api.MaxSource), symbol, []int{0, api.MaxSource - 1, api.MaxSource, api.MaxSource + api.MaxRepair - 1}, 1, 2)
	}
}

// P15.1: the first ones are the text's own pieces, and stand there in their order.
func TestTheFirstOnesAreTheText(t *testing.T) {
	f := field.New()
	for _, symbol := range []int{1, 3, 10, 64} {
		for n := 1; n <= symbol*api.MaxSource; n += 1 + n/7 {
			b := text(n)
			var whole []byte
			for _, d := range packsOf(t, f, api.Frame{ID: 8, Size: n}, b, symbol, allOf(count(n, symbol)), 0, 0) {
				whole = append(whole, d.Body...)
			}
			if !bytes.Equal(whole[:n], b) || !bytes.Equal(whole[n:], make([]byte, len(whole)-n)) {
				t.Fatalf("%d bytes by %d: %x", n, symbol, whole)
			}
		}
	}
}

// P15.1: in the order of ids, whichever it is, and as often as one stands among them.
func TestDrawnIDs(t *testing.T) {
	f := field.New()
	r := draw(1)
	for range 300 {
		symbol := 1 + r.below(api.MaxSymbol)
		b := r.bytes(1 + r.below(symbol*api.MaxSource))
		ids := make([]int, 1+r.below(40))
		for i := range ids {
			ids[i] = r.below(count(len(b), symbol) + api.MaxRepair)
		}
		packsAre(t, f, r.next(), b, symbol, ids, uint16(r.next()), uint16(r.next()))
	}
}

// P15.1: one id, as often as is asked for: each time a packet of its own.
func TestTheSameIDAgainAndAgain(t *testing.T) {
	f := field.New()
	for _, id := range []int{0, 2, 3, 66} {
		for _, n := range []int{1, 2, 3, 500} {
			packsAre(t, f, 77, []byte(hello), 5, slices.Repeat([]int{id}, n), 65530, 1)
		}
	}
	packsAre(t, f, 77, []byte(hello), 5, []int{66, 66, 0, 66, 0, 0, 2, 66}, 3, 1)
}

// P15.1: frame fr.ID, the least and the greatest too: each packet has it, and those beyond the text are fount's of it.
func TestFrames(t *testing.T) {
	f := field.New()
	for _, id := range []uint32{0, 1, 2, 255, 256, 65535, 65536, 65537, 123456789, 1 << 31, math.MaxUint32 - 1, math.MaxUint32} {
		packsAre(t, f, id, text(77), 10, allOf(8+api.MaxRepair), 5, 6)
		fr, other := api.Frame{ID: id, Size: 77}, api.Frame{ID: id ^ 1<<20, Size: 77}
		l, m := packsOf(t, f, fr, text(77), 10, []int{7, 8, 71}, 5, 6), packsOf(t, f, other, text(77), 10, []int{7, 8, 71}, 5, 6)
		if !bytes.Equal(l[0].Body, m[0].Body) || bytes.Equal(l[1].Body, m[1].Body) || bytes.Equal(l[2].Body, m[2].Body) {
			t.Errorf("frames %d and %d: %v, %v", fr.ID, other.ID, l, m)
		}
	}
}

// P15.1: Seq: seq and one more each, from whichever it begins, going round behind 65,535.
func TestNumbersGoRound(t *testing.T) {
	f := field.New()
	fr := api.Frame{ID: 1, Size: 2}
	for seq := range 65536 {
		for i, d := range packsOf(t, f, fr, []byte("ab"), 1, []int{1, 65, 1}, uint16(seq), 0) {
			if int(d.Seq) != (seq+i)%65536 {
				t.Fatalf("from %d, at %d: %d", seq, i, d.Seq)
			}
		}
	}
	for _, seq := range []uint16{0, 1, 32767, 32768, 65534, 65535} {
		packsAre(t, f, 1, []byte("ab"), 1, []int{0}, seq, 0)
		packsAre(t, f, 1, []byte("ab"), 1, []int{65, 0, 1, 0}, seq, 0)
	}
}

// P15.1: Seq of more packets than there are numbers: they go round more than once.
func TestNumbersGoRoundMoreThanOnce(t *testing.T) {
	l := packsOf(t, field.New(), api.Frame{ID: 1, Size: 1}, []byte("a"), 1, make([]int, 140000), 65535, 3)
	for i, d := range l {
		if int(d.Seq) != (65535+i)%65536 || d.Stamp != 3 || d.Symbol != 0 || string(d.Body) != "a" {
			t.Fatalf("at %d: %v", i, d)
		}
	}
}

// P15.1: Stamp stamp, each of all that there are, of each packet alike.
func TestStamps(t *testing.T) {
	f := field.New()
	fr := api.Frame{ID: 1, Size: 2}
	for stamp := range 65536 {
		for i, d := range packsOf(t, f, fr, []byte("ab"), 1, []int{0, 65, 0}, 77, uint16(stamp)) {
			if int(d.Stamp) != stamp || int(d.Seq) != 77+i {
				t.Fatalf("stamp %d, at %d: %v", stamp, i, d)
			}
		}
	}
}

// P15.1: no ids: of none of them fount says no, whatever else was handed in, as long as b has fr.Size bytes.
func TestNoIDs(t *testing.T) {
	for _, f := range []*field.Field{field.New(), nil, new(field.Field)} {
		for _, n := range []int{0, 1, 12, 2048, 2049, 5000} {
			for _, symbol := range []int{1, 5, 64, 0, -1, 65, math.MinInt, math.MaxInt} {
				none(t, f, api.Frame{ID: 77, Size: n}, text(n), symbol)
			}
		}
		none(t, f, api.Frame{}, nil, 5)
		none(t, f, api.Frame{}, []byte{}, 5)
		none(t, f, api.Frame{}, text(9)[:0], 5)
	}
}

// P15.1: ids at their ends: 0, the last piece of the text, the first one beyond it and the last.
func TestIDsAtTheirEnds(t *testing.T) {
	f := field.New()
	for _, symbol := range []int{1, 5, 64} {
		for k := 1; k <= api.MaxSource; k++ {
			for _, id := range []int{0, k - 1, k, k + api.MaxRepair - 1} {
				packsAre(t, f, 2, text(k*symbol), symbol, []int{id}, 65535, 65535)
				packsAre(t, f, 2, text((k-1)*symbol+1), symbol, []int{id, k - 1, id}, 65535, 65535)
			}
			refused(t, f, api.Frame{ID: 2, Size: k * symbol}, text(k*symbol), symbol, []int{k + api.MaxRepair})
			refused(t, f, api.Frame{ID: 2, Size: k * symbol}, text(k*symbol), symbol, []int{-1})
		}
	}
}

// P15.1: ids past their ends, at any place among others: no, and nothing of those that stand ahead of it.
func TestIDsPastTheirEnds(t *testing.T) {
	f := field.New()
	for _, k := range []int{1, 2, 3, 31, 32} {
		fr := api.Frame{ID: 2, Size: k * 5}
		good := []int{0, k, k - 1, k + api.MaxRepair - 1, 0}
		packsAre(t, f, 2, text(k*5), 5, good, 0, 0)
		for _, id := range past(k) {
			refused(t, f, fr, text(k*5), 5, []int{id})
			refused(t, f, fr, text(k*5), 5, []int{id, id})
			for place := range len(good) + 1 {
				refused(t, f, fr, text(k*5), 5, slices.Insert(slices.Clone(good), place, id))
			}
		}
	}
}

// P15.1: b shorter or longer than fr.Size, by one and by many: no, also where the symbols would be as many, and without ids.
func TestTextsOfAnotherSize(t *testing.T) {
	f := field.New()
	for _, size := range []int{1, 2, 11, 12, 13, 64, 2047, 2048} {
		packsAre(t, f, 77, text(size), 64, []int{0}, 0, 0)
		for n := range 2200 {
			if n == size {
				continue
			}
			for _, ids := range [][]int{nil, {}, {0}, {0, 64}} {
				refused(t, f, api.Frame{ID: 77, Size: size}, text(n), 64, ids)
			}
		}
		refused(t, f, api.Frame{ID: 77, Size: size}, nil, 64, []int{0})
		refused(t, f, api.Frame{ID: 77, Size: size}, nil, 64, nil)
		refused(t, f, api.Frame{ID: 77, Size: size}, text(size+65536), 64, []int{0})
		// Room behind the text is not the text.
		refused(t, f, api.Frame{ID: 77, Size: size}, text(size)[:size-1], 64, []int{0})
	}
}

// P15.1: a Size that no text has: no, also without ids, and whatever else may not be.
func TestSizesThatNoTextHas(t *testing.T) {
	for _, f := range []*field.Field{field.New(), nil} {
		for _, size := range append(farNumbers(), 0, 11, 13) {
			for _, symbol := range []int{5, 0, 65} {
				for _, ids := range [][]int{nil, {}, {0}, {0, 1}, {-1}} {
					refused(t, f, api.Frame{ID: 77, Size: size}, []byte(hello), symbol, ids)
				}
			}
			if size != 0 {
				refused(t, f, api.Frame{ID: 77, Size: size}, nil, 5, nil)
				refused(t, f, api.Frame{ID: 77, Size: size}, []byte{}, 5, []int{0})
			}
		}
	}
}

// P15.1: a text of no byte, and a Size of 0: fount says no of each of its ids; without any there is none to say no of.
func TestATextOfNoByte(t *testing.T) {
	f := field.New()
	for _, b := range [][]byte{nil, {}, text(12)[:0]} {
		for _, symbol := range []int{1, 5, 64, 0, -1, 65} {
			none(t, f, api.Frame{ID: 77}, b, symbol)
			for _, id := range append(past(0), 0, 1, 63, 64) {
				refused(t, f, api.Frame{ID: 77}, b, symbol, []int{id})
				refused(t, f, api.Frame{ID: 77}, b, symbol, []int{0, id})
			}
		}
	}
}

// P15.1: symbols at their ends and past them.
func TestSymbolsAtTheirEndsAndPastThem(t *testing.T) {
	f := field.New()
	fr := api.Frame{ID: 77, Size: len(hello)}
	for _, symbol := range []int{1, 2, 63, 64} {
		packsAre(t, f, 77, []byte(hello), symbol, []int{0, count(len(hello), symbol), 64}, 0, 0)
	}
	for _, symbol := range append(farNumbers(), 0, 65, 66, 128, 256, 257, 320, 2048) {
		none(t, f, fr, []byte(hello), symbol)
		for _, ids := range [][]int{{0}, {1}, {64}, {0, 1, 2}, {-1}, {math.MaxInt}} {
			refused(t, f, fr, []byte(hello), symbol, ids)
		}
	}
}

// P15.1: texts that have more symbols than a frame may: with ids, no.
func TestTextsThatAreTooLong(t *testing.T) {
	f := field.New()
	for symbol := 1; symbol <= api.MaxSymbol; symbol++ {
		for _, more := range []int{1, symbol, symbol + 1, 5000} {
			n := api.MaxSource*symbol + more
			none(t, f, api.Frame{ID: 77, Size: n}, text(n), symbol)
			for _, id := range []int{-1, 0, 1, 31, 32, 33, 95, 96} {
				refused(t, f, api.Frame{ID: 77, Size: n}, text(n), symbol, []int{id})
			}
		}
	}
}

// P15.1: a nil Field, and one that field's New did not make: with ids, no.
func TestNoField(t *testing.T) {
	fr := api.Frame{ID: 77, Size: len(hello)}
	for _, f := range []*field.Field{nil, new(field.Field)} {
		for _, symbol := range []int{1, 5, 12, 64, 0, -1, 65} {
			for _, ids := range [][]int{{0}, {2}, {3}, {66}, {0, 1, 2}, {-1}, {67}} {
				refused(t, f, fr, []byte(hello), symbol, ids)
			}
		}
		none(t, f, fr, []byte(hello), 5)
	}
}

// P15.1: what else is known of the frame says nothing in it, whatever it is.
func TestWhatSaysNothing(t *testing.T) {
	f := field.New()
	ids := []int{2, 0, 66}
	asked := want(t, f, 77, []byte(hello), 5, ids, 8, 9)
	for _, fr := range []api.Frame{
		{Kind: api.KindI, Play: 5, Deadline: 9},
		{Kind: api.KindP, Refs: []uint32{3}, Play: 9, Deadline: 5},
		{Kind: api.KindB, Refs: []uint32{77, 78, 3, 3}, Play: -1, Deadline: -2},
		{Kind: 9, Refs: make([]uint32, 100), Play: math.MaxInt64, Deadline: math.MinInt64},
		{Kind: math.MinInt, Refs: []uint32{}, Play: math.MinInt64, Deadline: math.MaxInt64},
		{Kind: -1, Play: 0, Deadline: api.MaxClock + 1},
	} {
		fr.ID, fr.Size = 77, len(hello)
		if l := packsOf(t, f, fr, []byte(hello), 5, ids, 8, 9); !same(l, asked) {
			t.Errorf("%v: %v", fr, l)
		}
		none(t, f, fr, []byte(hello), 5)
		refused(t, f, fr, []byte(hello), 5, []int{0, 67})
	}
}

// carried is what the wire brings of d.
func carried(t *testing.T, d api.Data) api.Data {
	t.Helper()
	sealed, e := packet.Put(api.Packet{Kind: api.PackData, Data: d})
	if e != api.OK {
		t.Fatalf("%v is not put: %d", d, e)
	}
	p, e := packet.Take(sealed)
	if e != api.OK || !sameData(p.Data, d) {
		t.Fatalf("%v came as %v, %d", d, p, e)
	}
	return p.Data
}

// rank is how many of the rows of ids say more.
func rank(t *testing.T, f *field.Field, frame uint32, k int, ids []int) int {
	t.Helper()
	rows, ok := basis.New(f, k, 1)
	if !ok {
		t.Fatalf("no basis of %d", k)
	}
	for _, id := range ids {
		row, _ := dice.Row(frame, id, k)
		rows.Add(row, []byte{0})
	}
	return rows.Rank()
}

// caughtIs asks that those packets of a frame give its bytes back, if their rows have full rank; it tells whether they have.
func caughtIs(t *testing.T, f *field.Field, frame uint32, b []byte, symbol int, ids []int) bool {
	t.Helper()
	k := count(len(b), symbol)
	caught, ok := basin.New(f, frame, len(b), symbol)
	if !ok {
		t.Fatalf("no basin of %d bytes by %d", len(b), symbol)
	}
	for _, d := range packsOf(t, f, api.Frame{ID: frame, Size: len(b)}, b, symbol, ids, 0, 0) {
		d = carried(t, d)
		caught.Add(int(d.Symbol), d.Body)
	}
	full := rank(t, f, frame, k, ids) == k
	if text, ok := caught.Payload(); ok != full || full && !bytes.Equal(text, b) {
		t.Fatalf("frame %d, %d bytes by %d, ids %v: %x, %v", frame, len(b), symbol, ids, text, ok)
	}
	return full
}

// 'What follows': of drawn frames any packets whose rows have full rank give the bytes back; there are many such, of all kinds.
func TestWhatIsPackedCanBeCaught(t *testing.T) {
	f := field.New()
	r := draw(77)
	full, few := 0, 0
	for range 600 {
		symbol := 1 + r.below(api.MaxSymbol)
		b := r.bytes(1 + r.below(symbol*api.MaxSource))
		k := count(len(b), symbol)
		ids := make([]int, k+r.below(k/2+2))
		for i := range ids {
			// Half of them are pieces of the text: those beyond it do not say all of a long one.
			ids[i] = r.below(k + r.below(2)*api.MaxRepair)
		}
		if caughtIs(t, f, r.next(), b, symbol, ids) {
			full++
		} else {
			few++
		}
	}
	if full < 100 || few < 100 {
		t.Errorf("%d of full rank, %d of less", full, few)
	}
}

// 'What follows': each piece that is lost, of a text of each k, two beyond the text mend, in whichever order they come.
func TestLostPiecesAreMended(t *testing.T) {
	f := field.New()
	for k := 1; k <= api.MaxSource; k++ {
		for lost := range k {
			ids := append([]int{k + 3, k + 40}, slices.Delete(allOf(k), lost, lost+1)...)
			mended := caughtIs(t, f, 60, text(k*7-3), 7, ids)
			slices.Reverse(ids)
			if !caughtIs(t, f, 60, text(k*7-3), 7, ids) || !mended {
				t.Errorf("k %d: piece %d is not mended", k, lost)
			}
		}
		if !caughtIs(t, f, 60, text(k*7-3), 7, append(allOf(k + api.MaxRepair)[k:], allOf(k)...)) {
			t.Errorf("k %d: all of them do not say all", k)
		}
	}
}

// R3: b, ids and Refs are left as they were, what stands behind them in the same room too, and that is not looked at.
func TestWhatIsHandedInIsLeftAsItWas(t *testing.T) {
	f := field.New()
	before := *f
	room := text(64)
	idRoom := []int{0, 3, 66, 2, 7, -5, 67, 1}
	refRoom := []uint32{3, 4, 5, 6}
	fr := api.Frame{ID: 77, Kind: api.KindP, Refs: refRoom[:2], Size: 12, Play: 1, Deadline: 2}
	l := packsOf(t, f, fr, room[:12], 5, idRoom[:4], 8, 9)
	if !same(l, want(t, f, 77, text(12), 5, []int{0, 3, 66, 2}, 8, 9)) {
		t.Errorf("%v", l)
	}
	refused(t, f, fr, room[:12], 5, idRoom[:6])
	refused(t, f, fr, room[:12], 0, idRoom[:4])
	refused(t, f, fr, room[:11], 5, idRoom[:4])
	none(t, f, fr, room[:12], 5)
	if !bytes.Equal(room, text(64)) || !slices.Equal(idRoom, []int{0, 3, 66, 2, 7, -5, 67, 1}) || !slices.Equal(refRoom, []uint32{3, 4, 5, 6}) {
		t.Errorf("changed: %x, %v, %v", room, idRoom, refRoom)
	}
	if *f != before {
		t.Error("the Field was changed")
	}
}

// R3: nothing of what was handed in is kept: who turns it turns no packet, nor the other way round.
func TestPacketsAreNewMemory(t *testing.T) {
	f := field.New()
	for _, symbol := range []int{1, 2, 5, 6, 12, 64} {
		k := count(12, symbol)
		b, ids := text(12), allOf(k+2)
		asked := want(t, f, 77, b, symbol, ids, 8, 9)
		fr := api.Frame{ID: 77, Size: 12}
		first, second := packsOf(t, f, fr, b, symbol, ids, 8, 9), packsOf(t, f, fr, b, symbol, ids, 8, 9)
		for i := range first {
			spoilt(first[i].Body)
			first[i] = api.Data{}
		}
		if !bytes.Equal(b, text(12)) || !same(second, asked) {
			t.Errorf("by %d: shared memory: %x, %v", symbol, b, second)
		}
		spoilt(b)
		clear(ids)
		if !same(second, asked) {
			t.Errorf("by %d: the text or the ids were kept: %v", symbol, second)
		}
	}
}

// R3: no two Bodies of one answer share memory, spare room too, those of one id either.
func TestNoTwoBodiesShareMemory(t *testing.T) {
	f := field.New()
	ids := []int{0, 0, 1, 66, 2, 66, 3, 1, 2, 66, 0, 4}
	for place := range ids {
		l := packsOf(t, f, api.Frame{ID: 77, Size: 12}, text(12), 5, ids, 8, 9)
		asked := want(t, f, 77, text(12), 5, ids, 8, 9)
		spoilt(l[place].Body)
		_ = append(l[place].Body, bytes.Repeat([]byte{0xEE}, 100)...)
		l, asked = slices.Delete(l, place, place+1), slices.Delete(asked, place, place+1)
		if !same(l, asked) {
			t.Errorf("the Body at %d shares memory: %v", place, l)
		}
	}
}

// R4, W6: the same call tells the same, by whichever Field, whatever was asked and refused between.
func TestCallsAreTheSameEachTime(t *testing.T) {
	f := field.New()
	fr := api.Frame{ID: 77, Size: len(hello)}
	ids := []int{66, 0, 2, 3}
	asked := want(t, f, 77, []byte(hello), 5, ids, 65534, 9)
	for between := range 30 {
		pack.Packets(f, api.Frame{ID: uint32(between), Size: between}, text(between), between, []int{between, 0}, uint16(between), 1)
		pack.Packets(f, fr, []byte(hello), 5, []int{0, 1, 67}, 3, 4)
		pack.Packets(nil, fr, []byte(hello), 5, ids, 5, 6)
		if l := packsOf(t, f, fr, []byte(hello), 5, ids, 65534, 9); !same(l, asked) {
			t.Fatalf("%v", l)
		}
		if l := packsOf(t, field.New(), fr, []byte(hello), 5, ids, 65534, 9); !same(l, asked) {
			t.Fatalf("another Field: %v", l)
		}
	}
}
