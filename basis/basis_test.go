package basis_test

import (
	"bytes"
	"math"
	"slices"
	"testing"

	"girandole/api"
	"girandole/basis"
	"girandole/field"
)

// fresh is a Basis without rows, where there must be one.
func fresh(t *testing.T, k, size int) *basis.Basis {
	t.Helper()
	b, ok := basis.New(field.New(), k, size)
	if !ok || b == nil {
		t.Fatalf("New(f, %d, %d): %v, %v", k, size, b, ok)
	}
	return b
}

// mixer gives bytes that are the same at each run.
type mixer uint32

func (m *mixer) bytes(n int) []byte {
	l := make([]byte, n)
	for i := range l {
		*m = *m*1664525 + 1013904223
		l[i] = byte(*m >> 24)
	}
	return l
}

func (m *mixer) rows(n, size int) [][]byte {
	l := make([][]byte, n)
	for i := range l {
		l[i] = m.bytes(size)
	}
	return l
}

// product follows the field chapter's words, so that these tests do not hang on its tables.
func product(a, b byte) byte {
	p := 0
	for i := 7; i >= 0; i-- {
		p <<= 1
		if p&0x100 != 0 {
			p ^= 0x11D
		}
		if b>>i&1 == 1 {
			p ^= int(a)
		}
	}
	return byte(p)
}

// said is what a row says of the symbols: the data that belongs to it.
func said(row []byte, symbols [][]byte) []byte {
	data := make([]byte, len(symbols[0]))
	for i, s := range symbols {
		for j := range data {
			data[j] ^= product(row[i], s[j])
		}
	}
	return data
}

// unit is the row of k bytes that says one symbol alone.
func unit(k, place int) []byte {
	row := make([]byte, k)
	row[place] = 1
	return row
}

func sameLists(a, b [][]byte) bool { return slices.EqualFunc(a, b, bytes.Equal) }

// solved asks that b says these symbols.
func solved(t *testing.T, b *basis.Basis, symbols [][]byte) {
	t.Helper()
	if l, ok := b.Solve(); !ok || !sameLists(l, symbols) {
		t.Fatalf("Solve: %x, %v, not %x", l, ok, symbols)
	}
}

// unsolved asks that b has so many rows, too few.
func unsolved(t *testing.T, b *basis.Basis, rank int) {
	t.Helper()
	if l, ok := b.Solve(); ok || l != nil || b.Rank() != rank {
		t.Fatalf("Solve: %x, %v; rank %d, not %d", l, ok, b.Rank(), rank)
	}
}

// P2.1 New: k and size within their bounds.
func TestNewWithinItsBounds(t *testing.T) {
	for _, k := range []int{1, 2, 31, api.MaxSource} {
		for _, size := range []int{1, 2, 63, api.MaxSymbol} {
			unsolved(t, fresh(t, k, size), 0)
		}
	}
}

// P2.1 New: no field, and k and size beyond their bounds.
func TestNewBeyondItsBounds(t *testing.T) {
	f := field.New()
	for _, c := range []struct {
		f       *field.Field
		k, size int
	}{
		{nil, 1, 1}, {nil, api.MaxSource, api.MaxSymbol}, {nil, 0, 0},
		{f, 0, 1}, {f, -1, 1}, {f, math.MinInt, 1}, {f, api.MaxSource + 1, 1}, {f, math.MaxInt, 1},
		{f, 1, 0}, {f, 1, -1}, {f, 1, math.MinInt}, {f, 1, api.MaxSymbol + 1}, {f, 1, math.MaxInt},
		{f, api.MaxSource + 1, api.MaxSymbol + 1}, {f, 0, 0},
		{new(field.Field), 2, 2}, // one that its New did not make reckons no more than nil
	} {
		if b, ok := basis.New(c.f, c.k, c.size); b != nil || ok {
			t.Errorf("New(%v, %d, %d): %v, %v", c.f != nil, c.k, c.size, b, ok)
		}
	}
}

// Examples: rows (1, 0), (1, 1): rank 2.
func TestExample(t *testing.T) {
	b := fresh(t, 2, 1)
	if !b.Add([]byte{1, 0}, []byte{7}) || b.Rank() != 1 || !b.Add([]byte{1, 1}, []byte{2}) || b.Rank() != 2 {
		t.Fatalf("rank %d", b.Rank())
	}
	solved(t, b, [][]byte{{7}, {5}})
}

// P2.1 Add, of one unknown: each row but 0 says it.
func TestOneUnknown(t *testing.T) {
	symbol := []byte{0, 1, 0x80, 0xFF}
	for c := range 256 {
		b := fresh(t, 1, 4)
		if more := b.Add([]byte{byte(c)}, said([]byte{byte(c)}, [][]byte{symbol})); more != (c != 0) {
			t.Fatalf("row %d: %v", c, more)
		}
		if c != 0 {
			solved(t, b, [][]byte{symbol})
		}
	}
}

// P2.1 Add: of two unknowns and one row, each of all rows says more, unless it is a multiple of that one.
func TestMultiplesSayNoMore(t *testing.T) {
	for _, first := range [][]byte{{1, 0}, {0, 1}, {1, 1}, {3, 0xFE}, {0, 0x80}, {0xFF, 0}} {
		multiples := map[[2]byte]bool{}
		for c := range 256 {
			multiples[[2]byte{product(byte(c), first[0]), product(byte(c), first[1])}] = true
		}
		b := fresh(t, 2, 1)
		if !b.Add(first, []byte{1}) {
			t.Fatalf("row %v", first)
		}
		for i := range 1 << 16 {
			row := []byte{byte(i >> 8), byte(i)}
			if more := b.Copy().Add(row, []byte{1}); more == multiples[[2]byte{row[0], row[1]}] {
				t.Fatalf("%v beside %v: %v", row, first, more)
			}
		}
	}
}

// P2.1 Add: of three unknowns and two rows, each sum of their multiples says no more; one byte beside it does.
func TestSumsOfMultiplesSayNoMore(t *testing.T) {
	b := fresh(t, 3, 1)
	first, second := []byte{0, 3, 9}, []byte{5, 0, 0xC1}
	if !b.Add(first, []byte{1}) || !b.Add(second, []byte{2}) {
		t.Fatal("the first rows")
	}
	row := make([]byte, 3)
	for i := range 1 << 16 {
		for j := range row {
			row[j] = product(byte(i>>8), first[j]) ^ product(byte(i), second[j])
		}
		if b.Add(row, []byte{byte(i)}) || b.Rank() != 2 {
			t.Fatalf("%v says more: rank %d", row, b.Rank())
		}
		row[i%3] ^= byte(i%255) + 1
		if !b.Copy().Add(row, []byte{byte(i)}) {
			t.Fatalf("%v says no more", row)
		}
	}
}

// P2.1 Add: noughts, and rows that are there, say no more, and change nothing, whatever their data.
func TestWhatSaysNoMoreChangesNothing(t *testing.T) {
	var m mixer = 1
	symbols := m.rows(4, 3)
	rows := [][]byte{{0, 0, 2, 1}, {0, 7, 0, 0}, {9, 9, 9, 9}, {1, 0, 0, 0}}
	b := fresh(t, 4, 3)
	for i, row := range rows {
		for _, old := range slices.Concat(rows[:i], [][]byte{make([]byte, 4)}) {
			for _, data := range [][]byte{said(old, symbols), m.bytes(3)} {
				if b.Add(old, data) {
					t.Fatalf("%v is there once more", old)
				}
			}
		}
		unsolved(t, b, i)
		if !b.Add(row, said(row, symbols)) || b.Rank() != i+1 {
			t.Fatalf("%v: rank %d", row, b.Rank())
		}
	}
	for range 100 {
		if b.Add(m.bytes(4), m.bytes(3)) || b.Rank() != 4 {
			t.Fatal("more than all")
		}
	}
	solved(t, b, symbols)
}

// P2.1 Add: a row or data of another length changes nothing.
func TestOtherLengths(t *testing.T) {
	b := fresh(t, 3, 2)
	for n := range 8 {
		for s := range 8 {
			if n == 3 && s == 2 {
				continue
			}
			row, data := bytes.Repeat([]byte{1}, n), bytes.Repeat([]byte{1}, s)
			if b.Add(row, data) || b.Rank() != 0 {
				t.Errorf("%d bytes and %d", n, s)
			}
		}
	}
	if b.Add(nil, nil) || b.Add([]byte{1, 1, 1}, nil) || b.Add(nil, []byte{1, 1}) || b.Rank() != 0 {
		t.Error("nothing")
	}
	symbols := [][]byte{{1, 2}, {3, 4}, {5, 6}}
	for i := range 3 {
		if !b.Add(unit(3, i), symbols[i]) || b.Add(unit(4, i), symbols[i]) || b.Add(unit(3, i), make([]byte, 3)) {
			t.Error("behind the lengths")
		}
	}
	solved(t, b, symbols)
}

// orders calls each with the places 0 to n - 1 in each order.
func orders(n int, each func([]int)) {
	var walk func(ahead, left []int)
	walk = func(ahead, left []int) {
		if len(left) == 0 {
			each(ahead)
		}
		for i := range left {
			walk(append(slices.Clone(ahead), left[i]), slices.Delete(slices.Clone(left), i, i+1))
		}
	}
	places := make([]int, n)
	for i := range places {
		places[i] = i
	}
	walk(nil, places)
}

// What follows: k rows that say more say all, in whatever order.
func TestEachOrderSaysAll(t *testing.T) {
	var m mixer = 2
	symbols := m.rows(4, 5)
	for _, rows := range [][][]byte{
		{unit(4, 0), unit(4, 1), unit(4, 2), unit(4, 3)},
		{{1, 2, 3, 4}, {0, 5, 6, 7}, {0, 0, 8, 9}, {0, 0, 0, 10}},
		{{0, 0, 0, 1}, {0, 0, 1, 1}, {0, 1, 1, 1}, {1, 1, 1, 1}},
		{{1, 1, 0, 0}, {0, 1, 1, 0}, {0, 0, 1, 1}, {1, 0, 0, 2}},
		{{0, 0, 0xFF, 1}, {0, 0, 1, 0xFF}, {2, 0x8E, 0, 0}, {0x8E, 2, 0, 0}},
	} {
		orders(4, func(places []int) {
			b := fresh(t, 4, 5)
			for i, place := range places {
				unsolved(t, b, i)
				if !b.Add(rows[place], said(rows[place], symbols)) {
					t.Fatalf("%v in the order %v", rows[place], places)
				}
			}
			solved(t, b, symbols)
			if b.Rank() != 4 {
				t.Fatalf("rank %d", b.Rank())
			}
		})
	}
}

// P2.1: the greatest Basis, by rows that are mixed, with some among them that say no more.
func TestTheGreatestBasis(t *testing.T) {
	for seed := range 8 {
		m := mixer(seed)
		symbols := m.rows(api.MaxSource, api.MaxSymbol)
		b := fresh(t, api.MaxSource, api.MaxSymbol)
		sum := make([]byte, api.MaxSource)
		for rank := 0; rank < api.MaxSource; {
			unsolved(t, b, rank)
			row := m.bytes(api.MaxSource)
			if b.Add(row, said(row, symbols)) {
				rank++
				for i, c := range row {
					sum[i] ^= product(c, byte(rank))
				}
			}
			if b.Add(sum, said(sum, symbols)) {
				t.Fatal("a sum of multiples says more")
			}
		}
		solved(t, b, symbols)
	}
}

// P2.1 Copy: each goes on by itself, and tells its own.
func TestCopiesGoTheirOwnWays(t *testing.T) {
	b := fresh(t, 3, 1)
	b.Add([]byte{1, 1, 1}, []byte{0x0F})
	c := b.Copy()
	if c.Rank() != 1 || c.Add([]byte{2, 2, 2}, []byte{0}) || c.Add([]byte{1, 1}, []byte{0}) || c.Add([]byte{1, 0, 0}, nil) {
		t.Fatal("the copy is another one")
	}
	if !c.Add([]byte{0, 1, 0}, []byte{2}) || !c.Add([]byte{0, 0, 1}, []byte{4}) {
		t.Fatal("the copy does not go on")
	}
	unsolved(t, b, 1)
	if !b.Add([]byte{0, 1, 0}, []byte{1}) || c.Rank() != 3 {
		t.Fatal("the first one does not go on")
	}
	d := b.Copy()
	if !b.Add([]byte{0, 1, 1}, []byte{8}) {
		t.Fatal("the first one does not end")
	}
	solved(t, c, [][]byte{{0x0F ^ 2 ^ 4}, {2}, {4}})
	solved(t, b, [][]byte{{0x0F ^ 8}, {1}, {9}})
	unsolved(t, d, 2)
	e := b.Copy()
	if e.Add([]byte{1, 2, 3}, []byte{4}) || e.Rank() != 3 {
		t.Fatal("the copy of a full one")
	}
	solved(t, e, [][]byte{{0x0F ^ 8}, {1}, {9}})
}

// R3: what is handed in stays as it is, behind its end too, and is not kept.
func TestRowsAreNeitherChangedNorKept(t *testing.T) {
	var m mixer = 3
	symbols := m.rows(3, 2)
	rows := [][]byte{{3, 1, 4}, {1, 5, 9}, {2, 6, 5}}
	b := fresh(t, 3, 2)
	for _, row := range rows {
		room := bytes.Repeat([]byte{0xEE}, 8)
		under := slices.Concat(row, room, said(row, symbols), room)
		before := bytes.Clone(under)
		first, data := under[:3], under[11:13]
		if !b.Add(first, data) || b.Add(first, data) || b.Add(data, first) {
			t.Fatalf("row %v", row)
		}
		if !bytes.Equal(under, before) {
			t.Fatalf("changed to %v, from %v", under, before)
		}
		clear(under)
	}
	solved(t, b, symbols)
}

// R3: the Field is not kept either.
func TestTheFieldIsNotKept(t *testing.T) {
	f := field.New()
	b, _ := basis.New(f, 2, 1)
	*f = field.Field{}
	if !b.Add([]byte{3, 1}, said([]byte{3, 1}, [][]byte{{5}, {6}})) || !b.Add([]byte{1, 3}, said([]byte{1, 3}, [][]byte{{5}, {6}})) {
		t.Fatal("Add")
	}
	solved(t, b, [][]byte{{5}, {6}})
	solved(t, b.Copy(), [][]byte{{5}, {6}})
}

// R3: what Solve tells is new memory, each symbol by itself.
func TestSymbolsAreNewMemory(t *testing.T) {
	var m mixer = 4
	symbols := m.rows(3, 2)
	b := fresh(t, 3, 2)
	for i := range 3 {
		b.Add(unit(3, i), symbols[i])
	}
	c := b.Copy()
	l, _ := b.Solve()
	for i, s := range l {
		clear(s)
		_ = append(s, 0xEE, 0xEE, 0xEE)
		for j := i + 1; j < len(l); j++ {
			if !bytes.Equal(l[j], symbols[j]) {
				t.Fatalf("symbol %d shares with %d", j, i)
			}
		}
	}
	solved(t, b, symbols)
	solved(t, c, symbols)
}

// P2.1: a nil Basis, and one that New did not make.
func TestNoBasis(t *testing.T) {
	for name, b := range map[string]*basis.Basis{"nil": nil, "unmade": new(basis.Basis)} {
		for _, row := range [][]byte{nil, {}, {1}, make([]byte, 32)} {
			if b.Add(row, []byte{1}) || b.Add(row, nil) || b.Add(row, row) {
				t.Errorf("%s: Add(%v)", name, row)
			}
		}
		if l, ok := b.Solve(); l != nil || ok {
			t.Errorf("%s: Solve: %v, %v", name, l, ok)
		}
		if b.Rank() != 0 {
			t.Errorf("%s: rank %d", name, b.Rank())
		}
		if c := b.Copy(); c != nil {
			t.Errorf("%s: Copy: %v", name, c)
		}
	}
}

// W6: the same rows tell the same.
func TestSame(t *testing.T) {
	b, c := fresh(t, 5, 4), fresh(t, 5, 4)
	var m, n mixer = 5, 5
	for range 12 {
		if b.Add(m.bytes(5), m.bytes(4)) != c.Add(n.bytes(5), n.bytes(4)) || b.Rank() != c.Rank() {
			t.Fatal("two of them differ")
		}
		first, _ := b.Solve()
		second, _ := c.Solve()
		if !sameLists(first, second) {
			t.Fatalf("%x, %x", first, second)
		}
	}
	if b.Rank() != 5 {
		t.Errorf("rank %d", b.Rank())
	}
}
