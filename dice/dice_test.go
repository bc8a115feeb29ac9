package dice_test

import (
	"bytes"
	"math"
	"testing"

	"girandole/api"
	"girandole/dice"
)

// frames are some, with the least and the greatest.
func frames() []uint32 {
	return []uint32{0, 1, 2, 7, 255, 65536, 123456789, 1 << 31, math.MaxUint32 - 1, math.MaxUint32}
}

// start is x ahead of its first turn, reckoned in wider numbers than the program's.
func start(frame uint32, symbol int) uint64 {
	x := (uint64(frame)*2654435761 + uint64(symbol)*40503 + 1) % (1 << 32)
	if x == 0 {
		return 1
	}
	return x
}

// turned is the k bytes that come of x, by the chapter's words, with no look at whether all are 0.
func turned(x uint64, k int) []byte {
	var row []byte
	for range k {
		x = (x ^ x*(1<<13)) % (1 << 32)
		x = x ^ x/(1<<17)
		x = (x ^ x*(1<<5)) % (1 << 32)
		row = append(row, byte(x/(1<<11)%(1<<8)))
	}
	return row
}

// frameOf is the frame whose symbol starts with this x, ahead of the look for 0.
func frameOf(x uint32, symbol int) uint32 {
	// Each round doubles how many low bits of the product with the factor come to 1.
	inverse := uint32(1)
	for range 6 {
		inverse *= 2 - 2654435761*inverse
	}
	return (x - 1 - uint32(symbol)*40503) * inverse
}

// want is the row that the chapter asks for.
func want(frame uint32, symbol, k int) []byte {
	row := make([]byte, k)
	if symbol < k {
		row[symbol] = 1
		return row
	}
	copy(row, turned(start(frame, symbol), k))
	if noughts(row) {
		row[0] = 1
	}
	return row
}

func noughts(row []byte) bool { return len(bytes.Trim(row, "\x00")) == 0 }

// rowOf is the row where there must be one.
func rowOf(t *testing.T, frame uint32, symbol, k int) []byte {
	t.Helper()
	row, ok := dice.Row(frame, symbol, k)
	if !ok || len(row) != k {
		t.Fatalf("Row(%d, %d, %d): %x, %v", frame, symbol, k, row, ok)
	}
	return row
}

// refused asks for no, and nothing beside it.
func refused(t *testing.T, frame uint32, symbol, k int) {
	t.Helper()
	if row, ok := dice.Row(frame, symbol, k); ok || row != nil {
		t.Errorf("Row(%d, %d, %d): %x, %v", frame, symbol, k, row, ok)
	}
}

// Examples: Row(7, 1, 3): 0, 1, 0.
func TestExample(t *testing.T) {
	if row := rowOf(t, 7, 1, 3); !bytes.Equal(row, []byte{0, 1, 0}) {
		t.Errorf("%v", row)
	}
}

// P3.1: rows that were worked out ahead, by other means than these tests'.
func TestKnownRows(t *testing.T) {
	for _, c := range []struct {
		frame     uint32
		symbol, k int
		row       []byte
	}{
		{0, 1, 1, []byte{0xAD}},
		{7, 3, 3, []byte{0x2D, 0x12, 0xA8}},
		{7, 66, 3, []byte{0x2C, 0xC2, 0xA0}},
		{123456789, 5, 4, []byte{0xE3, 0x00, 0x01, 0x3C}},
		{7, 32, 32, []byte{
			0x2D, 0x3B, 0x1A, 0x1E, 0xA0, 0x4B, 0xB5, 0xB6, 0xB0, 0x28, 0x38, 0x13, 0x2E, 0xA0, 0x6A, 0x1B,
			0x87, 0xF9, 0xA4, 0x91, 0x2F, 0xC5, 0x3B, 0x62, 0x45, 0xE9, 0x63, 0x11, 0x8B, 0x04, 0xCC, 0x56,
		}},
		{math.MaxUint32, 95, 32, []byte{
			0xFA, 0xE8, 0x94, 0x35, 0x29, 0x4E, 0xFF, 0xE5, 0xFF, 0xE2, 0x97, 0x47, 0x37, 0xF7, 0xC7, 0x7D,
			0xF4, 0xB3, 0xC5, 0xA3, 0xAD, 0x1D, 0x1F, 0xA5, 0xD8, 0xA6, 0x59, 0xA8, 0x3E, 0x20, 0xDD, 0x6A,
		}},
	} {
		if row := rowOf(t, c.frame, c.symbol, c.k); !bytes.Equal(row, c.row) {
			t.Errorf("Row(%d, %d, %d): %x, not %x", c.frame, c.symbol, c.k, row, c.row)
		}
	}
}

// P3.1: each symbol of each k that there may be: those below k, and from k to k + MaxRepair - 1.
func TestEachRowWithinTheBounds(t *testing.T) {
	for _, frame := range frames() {
		for k := 1; k <= api.MaxSource; k++ {
			for symbol := range k + api.MaxRepair {
				if row := rowOf(t, frame, symbol, k); !bytes.Equal(row, want(frame, symbol, k)) {
					t.Fatalf("Row(%d, %d, %d): %x, not %x", frame, symbol, k, row, want(frame, symbol, k))
				}
			}
		}
	}
}

// P3.1: a symbol below k has the same row in each frame; the one at k hasn't.
func TestWhereTheSymbolsOfTheTextEnd(t *testing.T) {
	for k := 1; k <= api.MaxSource; k++ {
		if !bytes.Equal(rowOf(t, 1, k-1, k), rowOf(t, 2, k-1, k)) {
			t.Errorf("symbol %d of %d hangs on its frame", k-1, k)
		}
		if bytes.Equal(rowOf(t, 1, k, k), rowOf(t, 2, k, k)) {
			t.Errorf("symbol %d of %d does not hang on its frame", k, k)
		}
	}
}

// P3.1: symbols beyond the last one, and below 0.
func TestSymbolsBeyondTheirBounds(t *testing.T) {
	for _, frame := range frames() {
		for k := 1; k <= api.MaxSource; k++ {
			rowOf(t, frame, 0, k)
			rowOf(t, frame, k+api.MaxRepair-1, k)
			for _, symbol := range []int{-1, -k, -api.MaxRepair, math.MinInt + 1, math.MinInt} {
				refused(t, frame, symbol, k)
			}
			for _, symbol := range []int{0, 1, 31, 1 << 16, 1<<32 - api.MaxSource, 1 << 32, 1 << 40} {
				refused(t, frame, k+api.MaxRepair+symbol, k)
			}
			refused(t, frame, math.MaxInt, k)
		}
	}
}

// P3.1: k beyond its bounds, whatever the symbol.
func TestKBeyondItsBounds(t *testing.T) {
	for _, k := range []int{0, -1, -63, -64, -api.MaxRepair - 1, math.MinInt, api.MaxSource + 1, 64, 1 << 32, 1<<32 + 1, math.MaxInt - 63, math.MaxInt} {
		for _, symbol := range []int{0, 1, 31, 32, 33, 63, 95, 96, 97, -1, k, k - 1, math.MaxInt, math.MinInt} {
			refused(t, 7, symbol, k)
		}
	}
}

// P3.1: the frame whose x comes to 0 (each symbol has one) has the row of the one whose x is 1.
func TestXThatComesToNought(t *testing.T) {
	// Worked out ahead, so that frameOf is held against something.
	for symbol, frame := range map[int]uint32{1: 3931744328, 3: 3693303674, 32: 235914191, 64: 715831023, 95: 1314968182} {
		if frameOf(0, symbol) != frame {
			t.Fatalf("symbol %d: frame %d, not %d", symbol, frameOf(0, symbol), frame)
		}
	}
	for k := 1; k <= api.MaxSource; k++ {
		for symbol := k; symbol < k+api.MaxRepair; symbol++ {
			ofNought, ofOne := frameOf(0, symbol), frameOf(1, symbol)
			row := rowOf(t, ofNought, symbol, k)
			if !bytes.Equal(row, rowOf(t, ofOne, symbol, k)) || !bytes.Equal(row, want(ofOne, symbol, k)) {
				t.Fatalf("Row(%d, %d, %d): %x", ofNought, symbol, k, row)
			}
			// 1 is turned to 0x2001, to itself, to 0x42021; a nought would stay one, and be mended to 1.
			if row[0] != 0x84 {
				t.Fatalf("Row(%d, %d, %d): %x", ofNought, symbol, k, row)
			}
		}
	}
}

// P3.1: rows whose bytes all come to 0 have 1 at the first place. There are such of 1 to 4 bytes: behind 4 of
// them no x has yet another one.
func TestRowsThatComeToNought(t *testing.T) {
	for _, c := range []struct {
		x uint32
		k int
	}{
		{0x121, 1}, {0x202, 1}, {0x1FCEC, 1}, {0x1FCEC, 2}, {0x21D0D, 2},
		{0x1B78CAB, 2}, {0x1B78CAB, 3}, {0x2DD00DB, 3}, {0x3FDC94A4, 3}, {0x3FDC94A4, 4},
	} {
		if row := turned(uint64(c.x), c.k); !noughts(row) {
			t.Fatalf("x %#x: %x", c.x, row)
		}
		for symbol := c.k; symbol < c.k+api.MaxRepair; symbol++ {
			row := rowOf(t, frameOf(c.x, symbol), symbol, c.k)
			if row[0] != 1 || !noughts(row[1:]) {
				t.Fatalf("Row(%d, %d, %d): %x", frameOf(c.x, symbol), symbol, c.k, row)
			}
		}
	}
}

// P3.1: the first byte stays 0, if another one is not.
func TestNoughtsAheadOfOthersStay(t *testing.T) {
	for _, c := range []struct {
		x uint32
		k int
	}{{0x121, 2}, {0x202, 2}, {0x1FCEC, 3}, {0x1B78CAB, 4}, {0x3FDC94A4, 5}} {
		for symbol := c.k; symbol < c.k+api.MaxRepair; symbol++ {
			row := rowOf(t, frameOf(c.x, symbol), symbol, c.k)
			if !noughts(row[:c.k-1]) || row[c.k-1] == 0 {
				t.Fatalf("Row(%d, %d, %d): %x", frameOf(c.x, symbol), symbol, c.k, row)
			}
		}
	}
}

// P3.1: of many frames no row of one byte is 0, though some came to 0 ahead of the rule.
func TestNoRowIsAllNoughts(t *testing.T) {
	mended := 0
	for frame := range uint32(1 << 14) {
		row := rowOf(t, frame, 1, 1)
		if noughts(row) {
			t.Fatalf("frame %d: %x", frame, row)
		}
		if noughts(turned(start(frame, 1), 1)) {
			mended++
			if row[0] != 1 {
				t.Fatalf("frame %d: %x", frame, row)
			}
		}
	}
	if mended == 0 {
		t.Error("no row came to 0")
	}
}

// R4, W6, 'What follows': a row is the same at each call, whatever was asked between.
func TestRowsAreTheSameAtEachCall(t *testing.T) {
	for _, symbol := range []int{0, 4, 5, 6, 40, 68} {
		first := bytes.Clone(rowOf(t, 99, symbol, 5))
		for between := range 20 {
			dice.Row(uint32(between), between*5, 1+between)
			dice.Row(99, symbol+1, 5)
			dice.Row(99, -1, 5)
			if row := rowOf(t, 99, symbol, 5); !bytes.Equal(row, first) {
				t.Fatalf("symbol %d: %x, then %x", symbol, first, row)
			}
		}
	}
}

// R3: each answer is new memory, its spare room too.
func TestRowsAreNewMemory(t *testing.T) {
	for _, symbol := range []int{0, 7, 8, 71} {
		first, second := rowOf(t, 3, symbol, 8), rowOf(t, 3, symbol, 8)
		for i := range first {
			first[i] ^= 0xFF
		}
		_ = append(first, bytes.Repeat([]byte{0xEE}, 40)...)
		if third := rowOf(t, 3, symbol, 8); !bytes.Equal(second, want(3, symbol, 8)) || !bytes.Equal(third, second) {
			t.Errorf("symbol %d: %x, %x", symbol, second, third)
		}
	}
}
