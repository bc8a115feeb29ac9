package fount_test

import (
	"bytes"
	"encoding/hex"
	"math"
	"testing"

	"girandole/api"
	"girandole/basis"
	"girandole/cut"
	"girandole/dice"
	"girandole/field"
	"girandole/fount"
)

const hello = "hello, world"

// text is n bytes, all kinds of them, the same at each run.
func text(n int) []byte {
	b := make([]byte, n)
	for i := range b {
		b[i] = byte(i * 7 % 251)
	}
	return b
}

// product follows the field chapter's words, so that these tests do not hang on its tables.
func product(a, b byte) byte {
	p := 0
	for i := 7; i >= 0; i-- {
		p <<= 1
		if p&0x100 != 0 {
			p ^= 0x11D
		}
		if b>>i&1 == 1 {
			p ^= int(a)
		}
	}
	return byte(p)
}

// want is the symbol that the chapter asks for, byte by byte of the text.
func want(t *testing.T, frame uint32, b []byte, size, id int) []byte {
	t.Helper()
	row, ok := dice.Row(frame, id, (len(b)+size-1)/size)
	if !ok {
		t.Fatalf("no row of symbol %d", id)
	}
	s := make([]byte, size)
	for i, x := range b {
		s[i%size] ^= product(row[i/size], x)
	}
	return s
}

// symbolOf is the symbol where there must be one.
func symbolOf(t *testing.T, f *field.Field, frame uint32, b []byte, size, id int) []byte {
	t.Helper()
	s, ok := fount.Symbol(f, frame, b, size, id)
	if !ok || len(s) != size {
		t.Fatalf("symbol %d of frame %d, %d bytes by %d: %x, %v", id, frame, len(b), size, s, ok)
	}
	return s
}

// symbolIs asks for the symbol that the chapter asks for.
func symbolIs(t *testing.T, f *field.Field, frame uint32, b []byte, size, id int) {
	t.Helper()
	if s, asked := symbolOf(t, f, frame, b, size, id), want(t, frame, b, size, id); !bytes.Equal(s, asked) {
		t.Fatalf("symbol %d of frame %d, %d bytes by %d: %x, not %x", id, frame, len(b), size, s, asked)
	}
}

// refused asks for no, and nothing beside it.
func refused(t *testing.T, f *field.Field, frame uint32, b []byte, size, id int) {
	t.Helper()
	if s, ok := fount.Symbol(f, frame, b, size, id); ok || s != nil {
		t.Errorf("symbol %d of frame %d, %d bytes by %d: %x, %v", id, frame, len(b), size, s, ok)
	}
}

// Examples: symbol 0 of a text: its first bytes.
func TestExample(t *testing.T) {
	if s := symbolOf(t, field.New(), 7, []byte(hello), 5, 0); string(s) != "hello" {
		t.Errorf("%q", s)
	}
}

// P5.1: symbols that were worked out ahead, by other means than these tests'.
func TestKnownSymbols(t *testing.T) {
	f := field.New()
	for _, c := range []struct {
		frame    uint32
		text     []byte
		size, id int
		symbol   string
	}{
		{77, []byte(hello), 5, 0, "68656c6c6f"},
		{77, []byte(hello), 5, 2, "6c64000000"},
		{77, []byte(hello), 5, 3, "bcc620b97c"},
		{77, []byte(hello), 5, 4, "09f67d6365"},
		{77, []byte(hello), 5, 66, "5a6312a697"},
		{78, []byte(hello), 5, 3, "5e1a21d33e"},
		{0, []byte("a"), 1, 1, "a1"},
		{0, []byte("a"), 1, 64, "02"},
		{7, []byte(hello), 12, 1, "e2b90b0b8c3d1bc08c540bc4"},
		{7, []byte(hello), 1, 12, "ef"},
		{3, text(1985), 64, 32, "71bb43f0d9774ff6ca2f69bd06da3021c0f35c092d6793e5dc3ebf791ff86eec" +
			"2755497cddeba847d3b321050d43f5be56a4b7f093cdd858aea18a8bbeb7fff0"},
		{123456789, text(2048), 64, 95, "98ca836e00cf58433d151733b14d07f3a19c5e5ba59b1ac49d6b7778b25398d3" +
			"a03ec049ee00929edfbf68507da7788d64440cf87634296b5fc39b1475a57e07"},
	} {
		if s := symbolOf(t, f, c.frame, c.text, c.size, c.id); hex.EncodeToString(s) != c.symbol {
			t.Errorf("symbol %d of frame %d, %d bytes by %d: %x, not %s", c.id, c.frame, len(c.text), c.size, s, c.symbol)
		}
	}
}

// P5.1: each symbol of texts of each k, the last piece full, or filled up by one byte, or by all but one.
func TestEachSymbolWithinTheBounds(t *testing.T) {
	f := field.New()
	for _, size := range []int{1, 2, 5, 63, 64} {
		for k := 1; k <= api.MaxSource; k++ {
			for _, n := range []int{k * size, k*size - size/2, (k-1)*size + 1} {
				for id := range k + api.MaxRepair {
					symbolIs(t, f, uint32(k), text(n), size, id)
				}
			}
		}
	}
}

// P5.1: each size that a symbol may have, with the least text and the greatest.
func TestEachSize(t *testing.T) {
	f := field.New()
	for size := 1; size <= api.MaxSymbol; size++ {
		least, greatest := []byte{0x9C}, text(api.MaxSource*size)
		for _, id := range []int{0, 1, api.MaxRepair} {
			symbolIs(t, f, 5, least, size, id)
		}
		for _, id := range []int{0, api.MaxSource - 1, api.MaxSource, api.MaxSource + api.MaxRepair - 1} {
			symbolIs(t, f, 5, greatest, size, id)
		}
	}
}

// P5.1: frames, the least and the greatest too: the symbols beyond the text hang on them, those of the text don't.
func TestFrames(t *testing.T) {
	f := field.New()
	b := text(77)
	frames := []uint32{0, 1, 2, 255, 65536, 123456789, 1 << 31, math.MaxUint32 - 1, math.MaxUint32}
	for _, frame := range frames {
		for id := range 8 + api.MaxRepair {
			symbolIs(t, f, frame, b, 10, id)
			same := bytes.Equal(symbolOf(t, f, frame, b, 10, id), symbolOf(t, f, frame^0x100, b, 10, id))
			if same != (id < 8) {
				t.Errorf("symbol %d of frames %d and %d: the same: %v", id, frame, frame^0x100, same)
			}
		}
	}
}

// P5.1: rows that dice mends, since their bytes come to noughts, or what they are made of does: no symbol is lost.
func TestRowsThatDiceMends(t *testing.T) {
	f := field.New()
	for frame := range uint32(1 << 12) {
		symbolIs(t, f, frame, []byte{0x53}, 1, 1)
		if s := symbolOf(t, f, frame, []byte{0x53}, 1, 1); s[0] == 0 {
			t.Fatalf("frame %d: a symbol that says nothing", frame)
		}
	}
	for id, frame := range map[int]uint32{1: 3931744328, 3: 3693303674, 64: 715831023} {
		// The row's one byte is 0x84 there.
		if s := symbolOf(t, f, frame, []byte{1}, 1, id); s[0] != 0x84 {
			t.Errorf("symbol %d of frame %d: %x", id, frame, s)
		}
	}
}

// P5.1: a text of noughts has symbols of noughts, and is no reason to say no.
func TestNoughts(t *testing.T) {
	f := field.New()
	for id := range 3 + api.MaxRepair {
		if s := symbolOf(t, f, 9, make([]byte, 30), 10, id); !bytes.Equal(s, make([]byte, 10)) {
			t.Errorf("symbol %d: %x", id, s)
		}
	}
}

// P5.1: sums: the symbols of two texts, added, are those of the texts, added.
func TestSymbolsAddUpAsTextsDo(t *testing.T) {
	f := field.New()
	x, y := text(100), bytes.Repeat([]byte{0xA7, 0, 1, 0x80}, 25)
	z := f.Axpy(x, y, 1)
	for id := range 10 + api.MaxRepair {
		s := f.Axpy(symbolOf(t, f, 4, x, 10, id), symbolOf(t, f, 4, y, 10, id), 1)
		if !bytes.Equal(s, symbolOf(t, f, 4, z, 10, id)) {
			t.Errorf("symbol %d: %x", id, s)
		}
	}
}

// 'What follows': the first ones are the text itself.
func TestTheFirstOnesAreTheText(t *testing.T) {
	f := field.New()
	for _, size := range []int{1, 2, 3, 7, 32, 63, 64} {
		for n := 1; n <= api.MaxSource*size; n += 1 + n/9 {
			k, ok := cut.Count(n, size)
			if !ok {
				t.Fatalf("Count(%d, %d)", n, size)
			}
			var l [][]byte
			for id := range k {
				l = append(l, symbolOf(t, f, 31, text(n), size, id))
			}
			if b, ok := cut.Join(l, n); !ok || !bytes.Equal(b, text(n)) {
				t.Fatalf("%d bytes by %d: %x, %v", n, size, b, ok)
			}
			if filled := l[k-1][n-(k-1)*size:]; !bytes.Equal(filled, make([]byte, len(filled))) {
				t.Fatalf("%d bytes by %d: filled up with %x", n, size, filled)
			}
		}
	}
}

// P5.1: a symbol's row says it: the pieces come back from symbols that say enough, those beyond the text first. (Of
// more than some 22 pieces the rows beyond the text do not say all, however many they are: others must come to them.)
func TestSymbolsThatSayEnoughGiveTheText(t *testing.T) {
	f := field.New()
	for _, k := range []int{1, 2, 3, 8, 20, 31, 32} {
		b := text(k*9 - 4)
		gathered, ok := basis.New(f, k, 9)
		if !ok {
			t.Fatalf("no basis of %d", k)
		}
		for id := k + api.MaxRepair - 1; id >= 0; id-- {
			row, _ := dice.Row(60, id, k)
			gathered.Add(row, symbolOf(t, f, 60, b, 9, id))
			if id == k && k <= 20 && gathered.Rank() < k {
				t.Errorf("k %d: rank %d without the text's own symbols", k, gathered.Rank())
			}
		}
		l, _ := gathered.Solve()
		if joined, ok := cut.Join(l, len(b)); !ok || !bytes.Equal(joined, b) {
			t.Errorf("k %d: %x, %v", k, joined, ok)
		}
	}
}

// P5.1: f is nil; and one that field's New did not make, which has no products either.
func TestNoField(t *testing.T) {
	for _, f := range []*field.Field{nil, new(field.Field)} {
		for _, size := range []int{1, 5, 64, 0, -1, 65} {
			for _, id := range []int{0, 1, 2, 3, 66, -1, 67, math.MaxInt} {
				refused(t, f, 77, []byte(hello), size, id)
				refused(t, f, 77, nil, size, id)
			}
		}
	}
}

// P5.1: where cut says no: a size that may not be, a text without bytes, one that is too long.
func TestWhereCutSaysNo(t *testing.T) {
	f := field.New()
	for _, size := range []int{0, -1, -5, -64, math.MinInt, math.MinInt + 1, 65, 66, 128, 1 << 16, 1 << 32, 1<<32 + 5, math.MaxInt} {
		for _, n := range []int{0, 1, 12, 64, 65, 2048, 2049} {
			for _, id := range []int{-1, 0, 1, 64, math.MaxInt} {
				refused(t, f, 1, text(n), size, id)
			}
		}
	}
	for size := 1; size <= api.MaxSymbol; size++ {
		for _, id := range []int{-1, 0, 1, 32, 63, 64, 95, 96} {
			refused(t, f, 1, nil, size, id)
			refused(t, f, 1, []byte{}, size, id)
			refused(t, f, 1, text(40)[:0], size, id)
			refused(t, f, 1, text(api.MaxSource*size+1), size, id)
			refused(t, f, 1, text(api.MaxSource*size+5000), size, id)
		}
	}
}

// P5.1: where dice says no: symbols below 0, and beyond the last one, which is as far off as the text is long.
func TestWhereDiceSaysNo(t *testing.T) {
	f := field.New()
	for _, size := range []int{1, 5, 64} {
		for k := 1; k <= api.MaxSource; k++ {
			for _, n := range []int{k * size, (k-1)*size + 1} {
				b := text(n)
				symbolOf(t, f, 2, b, size, k+api.MaxRepair-1)
				for _, id := range []int{0, 1, 32, 1 << 16, 1<<32 - 96, 1 << 32, 1 << 40} {
					refused(t, f, 2, b, size, k+api.MaxRepair+id)
				}
				for _, id := range []int{-1, -k, -64, -1 << 32, math.MinInt, math.MinInt + 1, math.MaxInt} {
					refused(t, f, 2, b, size, id)
				}
			}
		}
	}
}

// R3: the text stays as it was, spare room too, and what stands behind it is not looked at.
func TestTheTextStaysAsItWas(t *testing.T) {
	f := field.New()
	room := text(64)
	for id := range 4 + api.MaxRepair {
		if s := symbolOf(t, f, 8, room[:17], 5, id); !bytes.Equal(s, want(t, 8, text(17), 5, id)) {
			t.Errorf("symbol %d: %x", id, s)
		}
		refused(t, f, 8, room[:17], 0, id)
		refused(t, f, 8, room[:17], 5, -1)
		if !bytes.Equal(room, text(64)) {
			t.Fatalf("symbol %d: the text was changed: %x", id, room)
		}
	}
}

// R3: a symbol is new memory: who turns it turns neither the text nor another answer, and the other way round.
func TestSymbolsAreNewMemory(t *testing.T) {
	f := field.New()
	for _, size := range []int{1, 4, 8, 12, 64} {
		for _, id := range []int{0, 1, 2, 64} {
			b := text(12)
			if k := (12 + size - 1) / size; id >= k+api.MaxRepair {
				continue
			}
			asked := want(t, 6, b, size, id)
			first, second := symbolOf(t, f, 6, b, size, id), symbolOf(t, f, 6, b, size, id)
			for i := range first {
				first[i] ^= 0xFF
			}
			_ = append(first, bytes.Repeat([]byte{0xEE}, 80)...)
			if !bytes.Equal(b, text(12)) || !bytes.Equal(second, asked) {
				t.Errorf("by %d, symbol %d: shared memory: %x, %x", size, id, b, second)
			}
			clear(b)
			if !bytes.Equal(second, asked) {
				t.Errorf("by %d, symbol %d: the text was kept", size, id)
			}
		}
	}
}

// R4, W6: the same call tells the same, by whichever Field, whatever was asked and refused between.
func TestSymbolsAreTheSameAtEachCall(t *testing.T) {
	f := field.New()
	for _, id := range []int{0, 2, 3, 40, 66} {
		asked := want(t, 77, []byte(hello), 5, id)
		for between := range 20 {
			fount.Symbol(f, uint32(between), text(between*9), between, between*5)
			fount.Symbol(nil, 77, []byte(hello), 5, id)
			fount.Symbol(f, 77, []byte(hello), 5, math.MinInt)
			if s := symbolOf(t, f, 77, []byte(hello), 5, id); !bytes.Equal(s, asked) {
				t.Fatalf("symbol %d: %x, not %x", id, s, asked)
			}
			if s := symbolOf(t, field.New(), 77, []byte(hello), 5, id); !bytes.Equal(s, asked) {
				t.Fatalf("symbol %d, another Field: %x, not %x", id, s, asked)
			}
		}
	}
}

// R3: the Field that is handed in goes on as it did.
func TestTheFieldStaysAsItWas(t *testing.T) {
	f := field.New()
	before := *f
	for id := range 3 + api.MaxRepair {
		symbolOf(t, f, 77, []byte(hello), 5, id)
		refused(t, f, 77, []byte(hello), 65, id)
	}
	if *f != before {
		t.Error("the Field was changed")
	}
}
