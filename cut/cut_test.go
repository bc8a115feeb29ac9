package cut_test

import (
	"bytes"
	"math"
	"slices"
	"testing"

	"girandole/api"
	"girandole/cut"
)

// text is n bytes, none of them 0, so that what is filled up can be told from them.
func text(n int) []byte {
	b := make([]byte, n)
	for i := range b {
		b[i] = byte(1 + i*7%255)
	}
	return b
}

// texts is n texts of so many bytes each.
func texts(n, symbol int) [][]byte {
	var l [][]byte
	for i := range n {
		l = append(l, bytes.Repeat([]byte{byte(1 + i)}, symbol))
	}
	return l
}

// counted is k by taking one symbol off after the other; 0: no.
func counted(size, symbol int) int {
	if symbol < 1 || symbol > api.MaxSymbol {
		return 0
	}
	k := 0
	for ; size > 0 && k <= api.MaxSource; size -= symbol {
		k++
	}
	if k > api.MaxSource {
		return 0
	}
	return k
}

// pieces is b in symbols, byte by byte.
func pieces(b []byte, symbol int) [][]byte {
	var l [][]byte
	for i, x := range b {
		if i%symbol == 0 {
			l = append(l, make([]byte, symbol))
		}
		l[len(l)-1][i%symbol] = x
	}
	return l
}

func sameTexts(x, y [][]byte) bool { return slices.EqualFunc(x, y, bytes.Equal) }

// spoilt turns all bytes of b and writes over its spare room.
func spoilt(b []byte) {
	for i := range b {
		b[i] ^= 0xFF
	}
	b = b[:cap(b)]
	for i := range b {
		b[i] ^= 0xEE
	}
}

// splitOf is what is split where it must be.
func splitOf(t *testing.T, b []byte, symbol int) [][]byte {
	t.Helper()
	l, ok := cut.Split(b, symbol)
	if !ok {
		t.Fatalf("Split of %d bytes by %d: no", len(b), symbol)
	}
	return l
}

// joinOf is what is joined where it must be.
func joinOf(t *testing.T, l [][]byte, size int) []byte {
	t.Helper()
	b, ok := cut.Join(l, size)
	if !ok {
		t.Fatalf("Join of %d texts, size %d: no", len(l), size)
	}
	return b
}

// countIs asks for that answer; k is 0: no.
func countIs(t *testing.T, size, symbol, k int) {
	t.Helper()
	if got, ok := cut.Count(size, symbol); got != k || ok != (k > 0) {
		t.Errorf("Count(%d, %d): %d, %v, not %d", size, symbol, got, ok, k)
	}
}

// notSplit asks for no, and nothing beside it.
func notSplit(t *testing.T, b []byte, symbol int) {
	t.Helper()
	if l, ok := cut.Split(b, symbol); ok || l != nil {
		t.Errorf("Split of %d bytes by %d: %x, %v", len(b), symbol, l, ok)
	}
}

// notJoined asks for no, and nothing beside it.
func notJoined(t *testing.T, l [][]byte, size int) {
	t.Helper()
	if b, ok := cut.Join(l, size); ok || b != nil {
		t.Errorf("Join of %d texts, size %d: %x, %v", len(l), size, b, ok)
	}
}

// beyond are numbers that neither a size nor a symbol may be, some of which would come round to ones that may.
func beyond() []int {
	return []int{
		math.MinInt, math.MinInt + 1, math.MinInt + 64, -1 << 32, -1<<32 + 1, -2048, -65, -64, -2, -1, 0,
		2049, 2050, 1 << 16, 1 << 32, 1<<32 + 1, 1 << 40, 1 << 58, 1<<58 + 1, math.MaxInt - 63, math.MaxInt - 1, math.MaxInt,
	}
}

// Examples: Count(5, 2): 3.
func TestExample(t *testing.T) {
	countIs(t, 5, 2, 3)
}

// P4.1 Count: answers that were written down ahead, at the edges and just beyond them.
func TestKnownCounts(t *testing.T) {
	for _, c := range []struct{ size, symbol, k int }{
		{1, 1, 1}, {2, 1, 2}, {31, 1, 31}, {32, 1, 32}, {33, 1, 0},
		{1, 2, 1}, {2, 2, 1}, {3, 2, 2}, {63, 2, 32}, {64, 2, 32}, {65, 2, 0},
		{1, 63, 1}, {63, 63, 1}, {64, 63, 2}, {2016, 63, 32}, {2017, 63, 0},
		{1, 64, 1}, {63, 64, 1}, {64, 64, 1}, {65, 64, 2}, {1984, 64, 31}, {1985, 64, 32}, {2047, 64, 32}, {2048, 64, 32}, {2049, 64, 0},
		{1, 65, 0}, {65, 65, 0}, {2048, 65, 0}, {2080, 65, 0},
		{0, 1, 0}, {0, 64, 0}, {-1, 1, 0}, {-64, 64, 0}, {1, 0, 0}, {0, 0, 0}, {1, -1, 0}, {-1, -1, 0}, {-5, -2, 0},
	} {
		countIs(t, c.size, c.symbol, c.k)
	}
}

// P4.1 Count: each size and each symbol, from below the bounds to beyond them.
func TestCountsWithinTheBounds(t *testing.T) {
	for symbol := -70; symbol <= 140; symbol++ {
		for size := -70; size <= 2200; size++ {
			countIs(t, size, symbol, counted(size, symbol))
		}
	}
}

// P4.1 Count: numbers far beyond either bound, up to the least and the greatest.
func TestCountsFarBeyondTheBounds(t *testing.T) {
	for _, far := range beyond() {
		for symbol := 1; symbol <= api.MaxSymbol; symbol++ {
			countIs(t, far, symbol, 0)
		}
		for _, size := range []int{1, 2, 32, 64, 2048} {
			countIs(t, size, far, 0)
		}
		for _, other := range beyond() {
			countIs(t, far, other, 0)
		}
	}
}

// P4.1 Split: texts whose last symbol is full, and such whose last one is filled up.
func TestKnownSplits(t *testing.T) {
	for _, c := range []struct {
		text   string
		symbol int
		l      []string
	}{
		{"abcde", 2, []string{"ab", "cd", "e\x00"}},
		{"abcdef", 2, []string{"ab", "cd", "ef"}},
		{"abcdef", 3, []string{"abc", "def"}},
		{"abcdef", 4, []string{"abcd", "ef\x00\x00"}},
		{"abcdef", 5, []string{"abcde", "f\x00\x00\x00\x00"}},
		{"abcdef", 6, []string{"abcdef"}},
		{"abcdef", 8, []string{"abcdef\x00\x00"}},
		{"abc", 1, []string{"a", "b", "c"}},
		{"a", 1, []string{"a"}},
		{"\x00\x00\x00", 2, []string{"\x00\x00", "\x00\x00"}},
	} {
		var want [][]byte
		for _, x := range c.l {
			want = append(want, []byte(x))
		}
		if l := splitOf(t, []byte(c.text), c.symbol); !sameTexts(l, want) {
			t.Errorf("Split of %q by %d: %q", c.text, c.symbol, l)
		}
	}
}

// P4.1 Split, Join, 'What follows': each length and each symbol: the symbols, and that they are joined as the text was.
func TestWhatIsSplitIsJoinedAsItWas(t *testing.T) {
	for symbol := 1; symbol <= api.MaxSymbol; symbol++ {
		for size := 1; size <= api.MaxSource*symbol; size++ {
			b := text(size)
			l := splitOf(t, b, symbol)
			if !sameTexts(l, pieces(b, symbol)) {
				t.Fatalf("Split of %d bytes by %d: %x", size, symbol, l)
			}
			if k, ok := cut.Count(size, symbol); !ok || k != len(l) {
				t.Fatalf("Count(%d, %d): %d, %v; %d symbols", size, symbol, k, ok, len(l))
			}
			if joined := joinOf(t, l, size); !bytes.Equal(joined, b) {
				t.Fatalf("%d bytes by %d: %x", size, symbol, joined)
			}
		}
	}
}

// P4.1 Split: noughts at a text's end are bytes like others.
func TestNoughtsAtTheEndOfATextStay(t *testing.T) {
	for _, b := range [][]byte{{0}, {1, 0}, {1, 0, 0}, {0, 0, 0, 0}, {1, 2, 3, 0, 0, 0}} {
		for symbol := 1; symbol <= 8; symbol++ {
			if joined := joinOf(t, splitOf(t, b, symbol), len(b)); !bytes.Equal(joined, b) {
				t.Errorf("%x by %d: %x", b, symbol, joined)
			}
		}
	}
}

// P4.1 Split: no where Count says no: a text without bytes, nil, too long a text, a symbol that may not be.
func TestTextsThatAreNotSplit(t *testing.T) {
	for symbol := 1; symbol <= api.MaxSymbol; symbol++ {
		notSplit(t, nil, symbol)
		notSplit(t, []byte{}, symbol)
		notSplit(t, text(10)[:0], symbol)
		for _, more := range []int{1, 2, symbol, 5000} {
			notSplit(t, text(api.MaxSource*symbol+more), symbol)
		}
	}
	for _, symbol := range append(beyond(), 65, 66, 2048) {
		for _, n := range []int{0, 1, 2, 32, 64, 65, 2048, 2049} {
			notSplit(t, text(n), symbol)
		}
		notSplit(t, nil, symbol)
	}
}

// P4.1 Join: texts one behind the other, the first size bytes of them; each size that the texts allow.
func TestKnownJoins(t *testing.T) {
	l := [][]byte{[]byte("ab"), []byte("cd"), []byte("ef")}
	if b := joinOf(t, l, 6); string(b) != "abcdef" {
		t.Errorf("%q", b)
	}
	if b := joinOf(t, l, 5); string(b) != "abcde" {
		t.Errorf("%q", b)
	}
	// What stood behind the text need not be noughts.
	if b := joinOf(t, [][]byte{[]byte("abcd")}, 1); string(b) != "a" {
		t.Errorf("%q", b)
	}
	if b := joinOf(t, [][]byte{[]byte("abcd"), []byte("efgh")}, 5); string(b) != "abcde" {
		t.Errorf("%q", b)
	}
}

// P4.1 Join: of each count of texts of each length, all sizes from those that want one text fewer to those that want one more.
func TestJoinsOfEachSize(t *testing.T) {
	for symbol := 1; symbol <= api.MaxSymbol; symbol++ {
		for n := 1; n <= api.MaxSource; n++ {
			l := texts(n, symbol)
			whole := slices.Concat(l...)
			notJoined(t, l, (n-1)*symbol)
			notJoined(t, l, n*symbol+1)
			for size := (n-1)*symbol + 1; size <= n*symbol; size++ {
				if b := joinOf(t, l, size); !bytes.Equal(b, whole[:size]) {
					t.Fatalf("%d texts of %d bytes, size %d: %x", n, symbol, size, b)
				}
			}
		}
	}
}

// P4.1 Join: sizes beyond those that the texts allow, up to the least and the greatest int.
func TestSizesThatAreNotJoined(t *testing.T) {
	for _, n := range []int{1, 2, 3, 31, 32} {
		for _, symbol := range []int{1, 2, 3, 63, 64} {
			l := texts(n, symbol)
			for size := -70; size <= 2200; size++ {
				if size <= (n-1)*symbol || size > n*symbol {
					notJoined(t, l, size)
				}
			}
			for _, size := range beyond() {
				notJoined(t, l, size)
			}
		}
	}
}

// P4.1 Join: no texts, texts without bytes, texts longer than MaxSymbol, more texts than MaxSource: whatever the size.
func TestTextsThatAreNotJoined(t *testing.T) {
	for _, l := range [][][]byte{
		nil, {}, texts(3, 2)[:0],
		{nil}, {{}}, {nil, nil}, {nil, {}}, make([][]byte, api.MaxSource), make([][]byte, 2000),
		texts(1, api.MaxSymbol+1), texts(2, api.MaxSymbol+1), texts(31, 66), texts(32, 65), texts(1, 2048), texts(1, 1<<16),
		texts(api.MaxSource+1, 1), texts(api.MaxSource+1, 2), texts(api.MaxSource+1, api.MaxSymbol), texts(64, 32), texts(2000, 1),
	} {
		for size := -2; size <= 2200; size++ {
			notJoined(t, l, size)
		}
		for _, size := range beyond() {
			notJoined(t, l, size)
		}
	}
}

// P4.1 Join: texts that are not of one length: one of them is longer or shorter, at whichever place.
func TestTextsOfSeveralLengths(t *testing.T) {
	for n := 2; n <= api.MaxSource; n++ {
		for place := range n {
			for _, length := range []int{0, 1, 3, 5, 64, 65} {
				l := texts(n, 4)
				l[place] = text(length)
				for size := range n*4 + 66 {
					notJoined(t, l, size)
				}
			}
		}
	}
	notJoined(t, [][]byte{{1, 2}, {3}}, 3)
	notJoined(t, [][]byte{{1}, {2, 3}}, 2)
	notJoined(t, [][]byte{{1, 2}, {3}, {4, 5, 6}}, 6)
	notJoined(t, [][]byte{{1, 2}, nil}, 2)
	notJoined(t, [][]byte{nil, {1, 2}}, 2)
}

// R3: Split leaves its text as it was, spare room too, and looks at nothing behind it.
func TestSplitLeavesItsTextAsItWas(t *testing.T) {
	for _, symbol := range []int{1, 2, 3, 5, 8, 64} {
		room := text(40)
		before := bytes.Clone(room)
		l := splitOf(t, room[:5], symbol)
		if !sameTexts(l, pieces(before[:5], symbol)) {
			t.Errorf("by %d: %x", symbol, l)
		}
		notSplit(t, room[:0], symbol)
		notSplit(t, room, 0)
		if !bytes.Equal(room, before) {
			t.Errorf("by %d: the text was changed: %x", symbol, room)
		}
	}
}

// R3: Split keeps nothing of its text: who turns the text turns no symbol.
func TestSplitsAreNewMemory(t *testing.T) {
	for _, symbol := range []int{1, 2, 3, 4, 6, 7, 64} {
		b := text(6)
		want := pieces(b, symbol)
		first, second := splitOf(t, b, symbol), splitOf(t, b, symbol)
		spoilt(b)
		if !sameTexts(first, want) {
			t.Errorf("by %d: the symbols share the text's memory", symbol)
		}
		for i := range first {
			spoilt(first[i])
			if !sameTexts(first[i+1:], want[i+1:]) {
				t.Errorf("by %d: symbol %d shares memory with another one", symbol, i)
			}
		}
		if !sameTexts(second, want) {
			t.Errorf("by %d: two answers share memory", symbol)
		}
	}
}

// R3: what is put behind a symbol touches none of the others.
func TestSymbolsHaveNoSpareRoomInOneAnother(t *testing.T) {
	l := splitOf(t, text(64), 2)
	for i := range l {
		_ = append(l[i], 0xEE, 0xEE, 0xEE)
	}
	if !sameTexts(l, pieces(text(64), 2)) {
		t.Errorf("%x", l)
	}
}

// R3: Join leaves its texts as they were, spare room too, and the list of them.
func TestJoinLeavesItsTextsAsTheyWere(t *testing.T) {
	room := text(40)
	before := bytes.Clone(room)
	list := [][]byte{room[0:2], room[10:12], room[20:22], []byte("further")}
	for _, size := range []int{-1, 0, 4, 5, 6, 7, math.MaxInt} {
		cut.Join(list[:3], size)
		if !bytes.Equal(room, before) {
			t.Errorf("size %d: a text was changed: %x", size, room)
		}
		if !sameTexts(list, [][]byte{before[0:2], before[10:12], before[20:22], []byte("further")}) {
			t.Errorf("size %d: the list was changed: %x", size, list)
		}
	}
}

// R3: what is joined is new memory, of one text too.
func TestJoinsAreNewMemory(t *testing.T) {
	for n := 1; n <= 4; n++ {
		for size := (n-1)*3 + 1; size <= n*3; size++ {
			l := texts(n, 3)
			want := slices.Concat(l...)[:size]
			first, second := joinOf(t, l, size), joinOf(t, l, size)
			spoilt(first)
			if !sameTexts(l, texts(n, 3)) || !bytes.Equal(second, want) {
				t.Errorf("%d texts, size %d: what is joined shares memory", n, size)
			}
			for _, x := range l {
				spoilt(x)
			}
			if !bytes.Equal(second, want) {
				t.Errorf("%d texts, size %d: a text was kept", n, size)
			}
		}
	}
}

// R3: texts that share their memory are joined like others.
func TestTextsThatAreOneAndTheSame(t *testing.T) {
	x := []byte("ab")
	if b := joinOf(t, [][]byte{x, x, x}, 5); string(b) != "ababa" {
		t.Errorf("%q", b)
	}
}

// R4, W6: a call answers the same, whatever was asked and refused between.
func TestCallsAreTheSameEachTime(t *testing.T) {
	b := text(11)
	for range 20 {
		cut.Count(math.MaxInt, math.MinInt)
		cut.Split(nil, 65)
		cut.Join([][]byte{{1}, {}}, 1)
		countIs(t, 11, 4, 3)
		l := splitOf(t, b, 4)
		if !sameTexts(l, pieces(b, 4)) || !bytes.Equal(joinOf(t, l, 11), b) {
			t.Fatalf("%x", l)
		}
	}
}
