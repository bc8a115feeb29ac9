package basin_test

import (
	"bytes"
	"encoding/hex"
	"math"
	"slices"
	"testing"

	"girandole/api"
	"girandole/basin"
	"girandole/dice"
	"girandole/field"
	"girandole/fount"
)

const hello = "hello, world"

// text is n bytes, all kinds of them, none of them 0, the same at each run: so what is filled up can be told from it.
func text(n int) []byte {
	b := make([]byte, n)
	for i := range b {
		b[i] = byte(i*7%251) + 1
	}
	return b
}

// mixer gives orders that are the same at each run.
type mixer uint32

func (m *mixer) below(n int) int {
	*m = *m*1664525 + 1013904223
	return int(*m>>8) % n
}

// order is the numbers from low to high - 1, mixed.
func (m *mixer) order(low, high int) []int {
	l := numbers(low, high)
	for i := range l {
		j := i + m.below(len(l)-i)
		l[i], l[j] = l[j], l[i]
	}
	return l
}

// numbers is those from low to high - 1.
func numbers(low, high int) []int {
	var l []int
	for i := low; i < high; i++ {
		l = append(l, i)
	}
	return l
}

// orders calls each with the ids in each order.
func orders(ids []int, each func([]int)) {
	var walk func(ahead, left []int)
	walk = func(ahead, left []int) {
		if len(left) == 0 {
			each(ahead)
		}
		for i := range left {
			walk(append(slices.Clone(ahead), left[i]), slices.Delete(slices.Clone(left), i, i+1))
		}
	}
	walk(nil, ids)
}

// product follows the field chapter's words, so that these tests do not hang on its tables.
func product(a, b byte) byte {
	p := 0
	for i := 7; i >= 0; i-- {
		p <<= 1
		if p&0x100 != 0 {
			p ^= 0x11D
		}
		if b>>i&1 == 1 {
			p ^= int(a)
		}
	}
	return byte(p)
}

// inverse is a to the 254th: with a itself, the 255th power of any byte but 0 is 1.
func inverse(a byte) byte {
	p := byte(1)
	for range 254 {
		p = product(p, a)
	}
	return p
}

// span is the rows that were seen, each with 1 at a place where those behind it have 0: who says more is told by it
// without the basis that a Basin has within.
type span struct {
	rows   [][]byte
	places []int
}

func (s *span) add(row []byte) bool {
	row = bytes.Clone(row)
	for i, there := range s.rows {
		c := row[s.places[i]]
		for j := range row {
			row[j] ^= product(c, there[j])
		}
	}
	place := slices.IndexFunc(row, func(c byte) bool { return c != 0 })
	if place < 0 {
		return false
	}
	c := inverse(row[place])
	for j := range row {
		row[j] = product(c, row[j])
	}
	s.rows, s.places = append(s.rows, row), append(s.places, place)
	return true
}

// fresh is a Basin without symbols, where there must be one.
func fresh(t *testing.T, frame uint32, size, symbol int) *basin.Basin {
	t.Helper()
	b, ok := basin.New(field.New(), frame, size, symbol)
	if !ok || b == nil {
		t.Fatalf("New(f, %d, %d, %d): %v, %v", frame, size, symbol, b, ok)
	}
	return b
}

// symbolOf is the symbol that the sender makes.
func symbolOf(t *testing.T, frame uint32, text []byte, symbol, id int) []byte {
	t.Helper()
	s, ok := fount.Symbol(field.New(), frame, text, symbol, id)
	if !ok {
		t.Fatalf("no symbol %d of %d bytes by %d", id, len(text), symbol)
	}
	return s
}

// wants asks that b wants so many, some: then it has no text.
func wants(t *testing.T, b *basin.Basin, n int) {
	t.Helper()
	if p, ok := b.Payload(); ok || p != nil || b.Missing() != n {
		t.Fatalf("%d are wanted, not %d: %x, %v", b.Missing(), n, p, ok)
	}
}

// tells asks that b wants none and tells this text.
func tells(t *testing.T, b *basin.Basin, text []byte) {
	t.Helper()
	if p, ok := b.Payload(); !ok || !bytes.Equal(p, text) || b.Missing() != 0 {
		t.Fatalf("%d are wanted: %x, %v, not %x", b.Missing(), p, ok, text)
	}
}

// takes asks that each of these symbols of text says more, and that b wants one fewer behind each.
func takes(t *testing.T, b *basin.Basin, frame uint32, text []byte, symbol int, ids ...int) {
	t.Helper()
	for _, id := range ids {
		before := b.Missing()
		if !b.Add(id, symbolOf(t, frame, text, symbol, id)) || b.Missing() != before-1 {
			t.Fatalf("symbol %d of %v: %d are wanted, and %d were", id, ids, b.Missing(), before)
		}
	}
}

// Examples: all first symbols: the text.
func TestExample(t *testing.T) {
	b := fresh(t, 7, len(hello), 5)
	for id, s := range []string{"hello", ", wor", "ld\x00\x00\x00"} {
		wants(t, b, 3-id)
		if !b.Add(id, []byte(s)) {
			t.Fatalf("symbol %d", id)
		}
	}
	tells(t, b, []byte(hello))
}

// P6.1: symbols that were worked out ahead, by other means than these tests'.
func TestKnownSymbols(t *testing.T) {
	symbols := map[int]string{0: "68656c6c6f", 2: "6c64000000", 3: "bcc620b97c", 4: "09f67d6365", 66: "5a6312a697"}
	for _, ids := range [][]int{{3, 4, 66}, {66, 4, 3}, {0, 3, 4}, {2, 66, 0}, {4, 2, 3}} {
		b := fresh(t, 77, len(hello), 5)
		for i, id := range ids {
			wants(t, b, 3-i)
			s, err := hex.DecodeString(symbols[id])
			if err != nil || !b.Add(id, s) {
				t.Fatalf("symbol %d of %v: %v", id, ids, err)
			}
		}
		tells(t, b, []byte(hello))
	}
}

// P6.1 New, Missing, Bytes: each k and each symbol, the text as long as it may be, as short as it may be, and between.
func TestNewWithinItsBounds(t *testing.T) {
	for symbol := 1; symbol <= api.MaxSymbol; symbol++ {
		for k := 1; k <= api.MaxSource; k++ {
			for _, size := range []int{k * symbol, k*symbol - symbol/2, (k-1)*symbol + 1} {
				b := fresh(t, 1, size, symbol)
				wants(t, b, k)
				if b.Bytes() != k*symbol {
					t.Fatalf("%d bytes by %d: Bytes: %d", size, symbol, b.Bytes())
				}
			}
		}
	}
}

// P6.1 New: no field; and one that field's New did not make, which reckons no more than nil.
func TestNoField(t *testing.T) {
	for _, f := range []*field.Field{nil, new(field.Field)} {
		for _, c := range [][2]int{{1, 1}, {12, 5}, {2048, 64}, {0, 5}, {5, 0}, {math.MaxInt, math.MinInt}} {
			if b, ok := basin.New(f, 1, c[0], c[1]); b != nil || ok {
				t.Errorf("New(%v, 1, %d, %d): %v, %v", f != nil, c[0], c[1], b, ok)
			}
		}
	}
}

// P6.1 New: where cut.Count says no, for the size or for the symbol.
func TestWhereCountSaysNo(t *testing.T) {
	f := field.New()
	refused := func(size, symbol int) {
		t.Helper()
		if b, ok := basin.New(f, 1, size, symbol); b != nil || ok {
			t.Errorf("New(f, 1, %d, %d): %v, %v", size, symbol, b, ok)
		}
	}
	far := []int{math.MinInt, math.MinInt + 1, -1 << 32, -64, -1, 0, 1 << 16, 1 << 32, 1<<32 + 5, math.MaxInt - 1, math.MaxInt}
	for symbol := 1; symbol <= api.MaxSymbol; symbol++ {
		for _, size := range slices.Concat(far, []int{api.MaxSource*symbol + 1, api.MaxSource*symbol + symbol, 1 << 12}) {
			refused(size, symbol)
		}
	}
	for _, symbol := range slices.Concat(far, []int{api.MaxSymbol + 1, 128}) {
		for _, size := range slices.Concat(far, []int{1, 5, 64, 65, 2048, 2049}) {
			refused(size, symbol)
		}
	}
}

// P6.1 Add: each id that dice has says more to a Basin without symbols; the one behind the last does not.
func TestEachIdOfDice(t *testing.T) {
	for k := 1; k <= api.MaxSource; k++ {
		b := text(k*3 - 1)
		for id := range k + api.MaxRepair {
			takes(t, fresh(t, 11, len(b), 3), 11, b, 3, id)
		}
		empty := fresh(t, 11, len(b), 3)
		if empty.Add(k+api.MaxRepair, make([]byte, 3)) {
			t.Errorf("k %d: the one behind the last", k)
		}
		wants(t, empty, k)
	}
}

// P6.1 Add: where dice says no, nothing changes, whatever is there.
func TestWhereDiceSaysNo(t *testing.T) {
	b := text(14)
	for there := range 4 {
		gathered := fresh(t, 2, 14, 5)
		takes(t, gathered, 2, b, 5, numbers(0, there)...)
		for _, id := range []int{-1, -2, -3, -64, -1 << 16, -1 << 32, math.MinInt, math.MinInt + 1,
			67, 68, 96, 1 << 16, 1 << 32, 1<<32 + 1, 1<<32 + 66, 1 << 40, math.MaxInt - 1, math.MaxInt} {
			if gathered.Add(id, []byte("abcde")) || gathered.Add(id, nil) || gathered.Missing() != 3-there {
				t.Fatalf("symbol %d: %d are wanted", id, gathered.Missing())
			}
		}
		takes(t, gathered, 2, b, 5, numbers(there, 3)...)
		tells(t, gathered, b)
	}
}

// P6.1 Add: data that has not symbol bytes changes nothing, of a text's own symbols as of those beyond it.
func TestDataOfOtherLengths(t *testing.T) {
	for _, symbol := range []int{1, 2, 5, 63, 64} {
		b := text(3*symbol - symbol/2)
		gathered := fresh(t, 4, len(b), symbol)
		for i, id := range []int{66, 1, 3} {
			for n := range 3*symbol + 2 {
				if n != symbol && gathered.Add(id, text(n)) {
					t.Fatalf("symbol %d: %d bytes by %d", id, n, symbol)
				}
			}
			if gathered.Add(id, nil) || gathered.Add(id, []byte{}) {
				t.Fatalf("symbol %d: nothing, by %d", id, symbol)
			}
			wants(t, gathered, 3-i)
			takes(t, gathered, 4, b, symbol, id)
		}
		tells(t, gathered, b)
	}
}

// P6.1 Add: a symbol that comes twice says no more, whatever it says then: the first one holds.
func TestTwice(t *testing.T) {
	b := text(19)
	gathered := fresh(t, 3, 19, 5)
	ids := []int{2, 40, 0, 67}
	for i, id := range ids {
		takes(t, gathered, 3, b, 5, id)
		for _, again := range ids[:i+1] {
			for _, data := range [][]byte{symbolOf(t, 3, b, 5, again), make([]byte, 5), []byte("other")} {
				if gathered.Add(again, data) || gathered.Missing() != 3-i {
					t.Fatalf("symbol %d once more: %d are wanted", again, gathered.Missing())
				}
			}
		}
	}
	tells(t, gathered, b)
}

// P6.1 Add: symbols that came not yet, but whose rows say nothing more: multiples of one, and a nought for the other.
func TestRowsThatSayNoMore(t *testing.T) {
	for _, c := range []struct {
		frame           uint32
		k, there, other int
		last            []int
	}{
		{0, 2, 0, 11, []int{1}},         // the row is 46, 0
		{2, 2, 12, 1, []int{0}},         // 0, 65
		{0, 2, 26, 46, []int{1}},        // 156, 188 and 37, 101
		{1, 2, 51, 49, []int{2}},        // 154, 252 and 190, 127
		{1016, 3, 34, 35, []int{0, 65}}, // 163, 124, 103 and 71, 234, 152
		{9, 1, 0, 64, nil},
		{9, 1, 64, 0, nil},
	} {
		b := text(c.k*4 - 1)
		gathered := fresh(t, c.frame, len(b), 4)
		takes(t, gathered, c.frame, b, 4, c.there)
		for _, data := range [][]byte{symbolOf(t, c.frame, b, 4, c.other), []byte("else")} {
			if gathered.Add(c.other, data) || gathered.Missing() != c.k-1 {
				t.Fatalf("frame %d: symbol %d beside %d: %d are wanted", c.frame, c.other, c.there, gathered.Missing())
			}
		}
		takes(t, gathered, c.frame, b, 4, c.last...)
		tells(t, gathered, b)
	}
}

// P6.1 Add: symbols behind the last one that was wanted change nothing, whatever they say.
func TestBehindTheLastOne(t *testing.T) {
	b := text(28)
	for _, ids := range [][]int{{0, 1, 2, 3}, {67, 2, 5, 0}, {4, 5, 6, 7}} {
		gathered := fresh(t, 5, 28, 7)
		takes(t, gathered, 5, b, 7, ids...)
		for id := range 4 + api.MaxRepair {
			if gathered.Add(id, symbolOf(t, 5, b, 7, id)) || gathered.Add(id, []byte("another")) || gathered.Add(id, nil) {
				t.Fatalf("symbol %d behind %v", id, ids)
			}
		}
		tells(t, gathered, b)
	}
}

// P6.1 Payload: nothing while some are wanted; the text as soon as none is, and at each call from then on.
func TestPayloadAsSoonAsNoneIsWanted(t *testing.T) {
	for k := 1; k <= api.MaxSource; k++ {
		b := text(k*6 - 2)
		gathered := fresh(t, 8, len(b), 6)
		for id := k - 1; id >= 0; id-- {
			wants(t, gathered, id+1)
			wants(t, gathered, id+1)
			takes(t, gathered, 8, b, 6, id)
		}
		tells(t, gathered, b)
		tells(t, gathered, b)
	}
}

// P6.1 Payload: texts whose last symbol is full, or filled up by any number of bytes, or that have one byte.
func TestTheLastSymbol(t *testing.T) {
	for _, symbol := range []int{1, 2, 7, 64} {
		for size := 1; size <= 3*symbol; size++ {
			b := text(size)
			k := (size + symbol - 1) / symbol
			for _, ids := range [][]int{numbers(0, k), numbers(k, 2*k)} {
				gathered := fresh(t, 6, size, symbol)
				takes(t, gathered, 6, b, symbol, ids...)
				tells(t, gathered, b)
			}
		}
	}
}

// P6.1 Payload: what stands behind the text in its last symbol is not asked about, and not told.
func TestWhatFillsUpIsNotAsked(t *testing.T) {
	b := fresh(t, 9, 6, 4)
	if !b.Add(1, []byte("efxx")) || !b.Add(0, []byte("abcd")) {
		t.Fatal("Add")
	}
	tells(t, b, []byte("abcdef"))
	if b.Bytes() != 8 {
		t.Errorf("Bytes: %d", b.Bytes())
	}
}

// P6.1 Bytes: k times symbol, however many symbols are there.
func TestBytesStayAsTheyAre(t *testing.T) {
	b := fresh(t, 1, 13, 5)
	for _, id := range []int{-1, 0, 0, 66, 2, 1} {
		b.Add(id, text(5))
		if b.Bytes() != 15 {
			t.Fatalf("behind symbol %d: %d", id, b.Bytes())
		}
	}
	if b.Missing() != 0 {
		t.Errorf("%d are wanted", b.Missing())
	}
}

// P6.1: a text of noughts is one too, and its symbols say as much as others.
func TestNoughts(t *testing.T) {
	b := fresh(t, 12, 30, 10)
	takes(t, b, 12, make([]byte, 30), 10, 1, 50, 3)
	tells(t, b, make([]byte, 30))
}

// What follows: any rows of full rank give the text, in whatever order they come.
func TestEachOrderGivesTheText(t *testing.T) {
	b := text(18)
	for _, ids := range [][]int{{0, 1, 2, 3}, {0, 1, 2, 67}, {0, 4, 2, 5}, {3, 4, 40, 66}, {4, 5, 6, 7}, {64, 65, 66, 67}} {
		orders(ids, func(ids []int) {
			gathered := fresh(t, 13, 18, 5)
			takes(t, gathered, 13, b, 5, ids...)
			tells(t, gathered, b)
		})
	}
}

// What follows: of each k, some orders of all symbols: who says more is who says more by this test's own reckoning,
// and the text is there as soon as the rank is full, not sooner.
func TestAllSymbolsInSomeOrders(t *testing.T) {
	var m mixer = 1
	for k := 1; k <= api.MaxSource; k++ {
		for _, symbol := range []int{1, 9, api.MaxSymbol} {
			b := text(k*symbol - m.below(symbol))
			// Those beyond the text first, once; of more than some 22 pieces they alone do not say all.
			first := slices.Concat(m.order(k, k+api.MaxRepair), m.order(0, k))
			for _, ids := range [][]int{first, m.order(0, k+api.MaxRepair)} {
				inAnyOrder(t, uint32(m.below(1<<20)), b, symbol, k, ids)
			}
		}
	}
}

func inAnyOrder(t *testing.T, frame uint32, b []byte, symbol, k int, ids []int) {
	t.Helper()
	gathered := fresh(t, frame, len(b), symbol)
	var seen span
	for _, id := range ids {
		row, _ := dice.Row(frame, id, k)
		if more := seen.add(row); gathered.Add(id, symbolOf(t, frame, b, symbol, id)) != more {
			t.Fatalf("frame %d, k %d: symbol %d says more: %v", frame, k, id, more)
		}
		if len(seen.rows) < k {
			wants(t, gathered, k-len(seen.rows))
		} else {
			tells(t, gathered, b)
		}
	}
	tells(t, gathered, b)
}

// P6.1: the frame that New was given makes the rows, the least and the greatest too; those of another one give
// another text.
func TestFrames(t *testing.T) {
	b := text(20)
	for _, frame := range []uint32{0, 1, 255, 65536, 123456789, 1 << 31, math.MaxUint32 - 1, math.MaxUint32} {
		gathered, other := fresh(t, frame, 20, 5), fresh(t, frame^0x10000, 20, 5)
		for id := 4; gathered.Missing() > 0; id++ {
			gathered.Add(id, symbolOf(t, frame, b, 5, id))
		}
		tells(t, gathered, b)
		for id := 4; other.Missing() > 0; id++ {
			other.Add(id, symbolOf(t, frame, b, 5, id))
		}
		if p, ok := other.Payload(); !ok || len(p) != 20 || bytes.Equal(p, b) {
			t.Errorf("frame %d by the rows of another: %x, %v", frame, p, ok)
		}
	}
}

// P6.1 Copy: at each step the copy is as what it was copied of.
func TestCopiesAreTheSame(t *testing.T) {
	b := text(17)
	gathered := fresh(t, 14, 17, 4)
	for i, id := range []int{3, 68, 5, 0, 1} {
		c := gathered.Copy()
		wants(t, c, 5-i)
		if c == gathered || c.Bytes() != 20 || c.Add(69, make([]byte, 4)) || c.Add(-1, make([]byte, 4)) || c.Add(id, make([]byte, 3)) {
			t.Fatalf("the copy with %d is another one", i)
		}
		takes(t, c, 14, b, 4, id)
		takes(t, gathered, 14, b, 4, id)
		if c.Add(3, symbolOf(t, 14, b, 4, 3)) {
			t.Fatalf("the copy with %d forgot", i)
		}
	}
	full := gathered.Copy()
	tells(t, full, b)
	tells(t, full.Copy(), b)
	if full.Add(2, []byte("abcd")) || full.Bytes() != 20 {
		t.Error("the copy of a full one")
	}
}

// P6.1 Copy: a copy and what it was copied of go on by themselves, each to a text of its own.
func TestCopiesGoTheirOwnWays(t *testing.T) {
	gathered := fresh(t, 15, 11, 4)
	if !gathered.Add(0, []byte("from")) {
		t.Fatal("the first symbol")
	}
	c := gathered.Copy()
	if !c.Add(1, []byte(" one")) || !c.Add(2, []byte(" up.")) {
		t.Fatal("the copy does not go on")
	}
	wants(t, gathered, 2)
	d := gathered.Copy()
	takes(t, gathered, 15, []byte("from two on"), 4, 66, 3)
	wants(t, d, 2)
	tells(t, gathered, []byte("from two on"))
	tells(t, c, []byte("from one up"))
	takes(t, d, 15, []byte("from any to"), 4, 3, 66)
	tells(t, d, []byte("from any to"))
	tells(t, gathered, []byte("from two on"))
	tells(t, c, []byte("from one up"))
}

// P6.1: two Basins of one text know nothing of each other.
func TestTwoBasins(t *testing.T) {
	f := field.New()
	a, _ := basin.New(f, 16, 10, 5)
	b, _ := basin.New(f, 16, 10, 5)
	takes(t, a, 16, []byte("first text"), 5, 0, 1)
	wants(t, b, 2)
	takes(t, b, 16, []byte("other text"), 5, 3, 2)
	tells(t, a, []byte("first text"))
	tells(t, b, []byte("other text"))
}

// R3: data stays as it is, spare room too, and is not kept, whether it is taken or refused.
func TestDataIsNeitherChangedNorKept(t *testing.T) {
	b := text(14)
	gathered := fresh(t, 17, 14, 5)
	for i, id := range []int{0, 66, 4} {
		under := slices.Concat(symbolOf(t, 17, b, 5, id), bytes.Repeat([]byte{0xEE}, 9))
		before := bytes.Clone(under)
		if !gathered.Add(id, under[:5]) || gathered.Add(id, under[:5]) || gathered.Add(67, under[:5]) || gathered.Add(1, under[:6]) {
			t.Fatalf("symbol %d", id)
		}
		if gathered.Missing() != 2-i || !bytes.Equal(under, before) {
			t.Fatalf("%d are wanted; changed to %x, from %x", gathered.Missing(), under, before)
		}
		gathered.Payload()
		if !bytes.Equal(under, before) {
			t.Fatalf("Payload changed the data to %x, from %x", under, before)
		}
		clear(under)
	}
	tells(t, gathered, b)
}

// R3: the Field is neither changed nor kept.
func TestTheFieldIsNeitherChangedNorKept(t *testing.T) {
	f := field.New()
	before := *f
	b, _ := basin.New(f, 18, 9, 3)
	takes(t, b, 18, text(9), 3, 1)
	c := b.Copy()
	if *f != before {
		t.Fatal("the Field was changed")
	}
	*f = field.Field{}
	takes(t, b, 18, text(9), 3, 60, 5)
	takes(t, c, 18, text(9), 3, 5, 60)
	tells(t, b, text(9))
	tells(t, c, text(9))
}

// R3: what Payload tells is new memory at each call.
func TestPayloadIsNewMemory(t *testing.T) {
	for _, size := range []int{1, 5, 12, 15} {
		b := text(size)
		k := (size + 4) / 5
		gathered := fresh(t, 19, size, 5)
		takes(t, gathered, 19, b, 5, numbers(0, k)...)
		c := gathered.Copy()
		first, _ := gathered.Payload()
		second, _ := gathered.Payload()
		for i := range first {
			first[i] ^= 0xFF
		}
		_ = append(first, bytes.Repeat([]byte{0xEE}, 80)...)
		if !bytes.Equal(second, b) {
			t.Fatalf("%d bytes: two answers share memory: %x", size, second)
		}
		tells(t, gathered, b)
		tells(t, c, b)
	}
}

// P6.1: a nil Basin for each call; and one that New did not make.
func TestNoBasin(t *testing.T) {
	for name, b := range map[string]*basin.Basin{"nil": nil, "unmade": new(basin.Basin)} {
		for _, id := range []int{0, 1, 63, 64, -1, math.MinInt, math.MaxInt} {
			if b.Add(id, nil) || b.Add(id, []byte{}) || b.Add(id, []byte{1}) || b.Add(id, make([]byte, 64)) {
				t.Errorf("%s: Add(%d)", name, id)
			}
		}
		if b.Missing() != 0 || b.Bytes() != 0 {
			t.Errorf("%s: Missing: %d, Bytes: %d", name, b.Missing(), b.Bytes())
		}
		if p, ok := b.Payload(); p != nil || ok {
			t.Errorf("%s: Payload: %x, %v", name, p, ok)
		}
		if c := b.Copy(); c != nil {
			t.Errorf("%s: Copy: %v", name, c)
		}
	}
}

// R4, W6: the same calls tell the same, whatever is asked between.
func TestSame(t *testing.T) {
	b, c := fresh(t, 20, 33, 7), fresh(t, 20, 33, 7)
	var m mixer = 2
	for range 60 {
		id := m.below(72) - 1
		data := text(7 + m.below(8)/7)[m.below(2):]
		c.Copy().Add(id^1, data)
		c.Payload()
		if b.Add(id, data) != c.Add(id, data) || b.Missing() != c.Missing() || b.Bytes() != c.Bytes() {
			t.Fatalf("symbol %d: two of them differ", id)
		}
		first, _ := b.Payload()
		second, _ := c.Payload()
		if !bytes.Equal(first, second) {
			t.Fatalf("%x, %x", first, second)
		}
	}
	if b.Missing() != 0 {
		t.Errorf("%d are wanted", b.Missing())
	}
}
