package serial_test

import (
	"testing"

	"girandole/serial"
)

// starts are numbers to go from: both ends, the half, and numbers between.
func starts() []uint16 {
	return []uint16{0, 1, 2, 100, 255, 256, 12345, 32766, 32767, 32768, 32769, 40000, 54321, 65279, 65280, 65534, 65535}
}

// behind is how far b is behind a by the chapter's words, without numbers that wrap: 1 to 32,767 behind; from 32,769 on ahead by what is left of the round.
func behind(a, b uint16) int {
	d := (int(b) + 65536 - int(a)) % 65536
	switch {
	case d <= 32767:
		return d
	case d >= 32769:
		return -(65536 - d)
	}
	return -32768
}

// nearest is the number nearest to top whose last 16 bits are n, by looking ever farther, below it first: of two as near, the smaller one.
func nearest(top uint64, n uint16) uint64 {
	for far := uint64(0); ; far++ {
		if (top-far)%65536 == uint64(n) {
			return top - far
		}
		if (top+far)%65536 == uint64(n) {
			return top + far
		}
	}
}

// differs asks for that Diff, and for the Less that goes with it.
func differs(t *testing.T, a, b uint16, want int) {
	t.Helper()
	if got := serial.Diff(a, b); got != want {
		t.Errorf("Diff(%d, %d): %d, not %d", a, b, got, want)
	}
	if got := serial.Less(a, b); got != (want > 0) {
		t.Errorf("Less(%d, %d): %v where Diff is %d", a, b, got, want)
	}
}

// step is a number that is handed in, what is told, and the greatest one behind it.
type step struct {
	n        uint16
	out, top uint64
}

// goes asks an Ext for each of those steps, one behind the other.
func goes(t *testing.T, e *serial.Ext, steps []step) {
	t.Helper()
	for i, s := range steps {
		if out := e.Extend(s.n); out != s.out {
			t.Errorf("step %d: Extend(%d): %d, not %d", i, s.n, out, s.out)
		}
		topIs(t, e, s.top)
	}
}

// topIs asks for that greatest one.
func topIs(t *testing.T, e *serial.Ext, want uint64) {
	t.Helper()
	if top, ok := e.Top(); top != want || !ok {
		t.Errorf("Top: %d, %v, not %d", top, ok, want)
	}
}

// topIsNone asks for no, and nothing beside it.
func topIsNone(t *testing.T, e *serial.Ext) {
	t.Helper()
	if top, ok := e.Top(); top != 0 || ok {
		t.Errorf("Top of none: %d, %v", top, ok)
	}
}

// P8.1 Less, Diff: numbers that were written down ahead.
func TestKnownDifferences(t *testing.T) {
	for _, c := range []struct {
		a, b uint16
		want int
	}{
		{5, 9, 4}, {9, 5, -4}, {1000, 2000, 1000}, {2000, 1000, -1000},
		{65530, 10, 16}, {10, 65530, -16}, {60000, 1000, 6536}, {1000, 60000, -6536},
		{40000, 100, 25636}, {100, 40000, -25636}, {50000, 10000, 25536}, {10000, 50000, -25536},
		{0, 40000, -25536}, {40000, 0, 25536}, {20000, 52767, 32767}, {52767, 20000, -32767},
	} {
		differs(t, c.a, c.b, c.want)
	}
}

// P8.1 Less, Diff: two numbers alike, each of them: neither is behind the other.
func TestNumbersAlike(t *testing.T) {
	for a := range 65536 {
		differs(t, uint16(a), uint16(a), 0)
	}
}

// P8.1 Less, Diff, 'Words': from 0 and from 65,535, the edges one by one, both ways round.
func TestEdgesFromBothEnds(t *testing.T) {
	for _, c := range []struct {
		a, b uint16
		want int
	}{
		{0, 1, 1}, {0, 32767, 32767}, {0, 32768, -32768}, {0, 32769, -32767}, {0, 65535, -1},
		{1, 0, -1}, {32767, 0, -32767}, {32768, 0, -32768}, {32769, 0, 32767}, {65535, 0, 1},
		{65535, 32766, 32767}, {65535, 32767, -32768}, {65535, 32768, -32767}, {65535, 65534, -1},
		{32766, 65535, -32767}, {32767, 65535, -32768}, {32768, 65535, 32767}, {65534, 65535, 1},
	} {
		differs(t, c.a, c.b, c.want)
	}
}

// P8.1 Less, Diff: the edges from numbers between, both ways round; half a round away neither is behind the other, and Diff is -32,768 both ways.
func TestEdgesFromEachStart(t *testing.T) {
	for _, a := range starts() {
		for _, c := range []struct {
			apart       uint16
			there, back int
		}{{1, 1, -1}, {32767, 32767, -32767}, {32768, -32768, -32768}, {32769, -32767, 32767}, {65535, -1, 1}} {
			differs(t, a, a+c.apart, c.there)
			differs(t, a+c.apart, a, c.back)
		}
	}
}

// P8.1 Less, Diff: each number from each start, against the chapter's words.
func TestEachNumberFromEachStart(t *testing.T) {
	for _, a := range starts() {
		for i := range 65536 {
			b := uint16(i)
			differs(t, a, b, behind(a, b))
			differs(t, b, a, behind(b, a))
		}
	}
}

// P8.1 Less, Diff: against each other over many pairs: the one way is the other with its sign turned, of two that are not alike just one is behind, but for half a round, where none is; and b is a and Diff.
func TestLessAndDiffAgainstEachOther(t *testing.T) {
	x := uint32(1)
	for range 300000 {
		x = x*1664525 + 1013904223
		a, b := uint16(x>>16), uint16(x>>3)
		there, back := serial.Diff(a, b), serial.Diff(b, a)
		half := b-a == 32768
		if half != (there == -32768) || half != (there == back && a != b) || !half && there != -back {
			t.Fatalf("Diff of %d and %d: %d there, %d back", a, b, there, back)
		}
		if a+uint16(there) != b {
			t.Fatalf("%d and Diff %d are not %d", a, there, b)
		}
		one, other := serial.Less(a, b), serial.Less(b, a)
		if one && other || !one && !other && a != b && !half || one != (there > 0) || other != (back > 0) {
			t.Fatalf("Less of %d and %d: %v there, %v back", a, b, one, other)
		}
	}
}

// Examples: Extend(65535), Extend(0): 131,071; 131,072.
func TestExample(t *testing.T) {
	goes(t, serial.New(), []step{{65535, 131071, 131071}, {0, 131072, 131072}})
}

// P8.2 Extend: the first one is 65,536 and n, whichever n it is; the same one again is the same again.
func TestFirstNumberAndTheSameAgain(t *testing.T) {
	for _, c := range []struct {
		n    uint16
		want uint64
	}{{0, 65536}, {1, 65537}, {32767, 98303}, {32768, 98304}, {65535, 131071}} {
		s := step{c.n, c.want, c.want}
		goes(t, serial.New(), []step{s, s, s})
	}
	for i := range 65536 {
		if out := serial.New().Extend(uint16(i)); out != 65536+uint64(i) {
			t.Errorf("Extend(%d): %d", i, out)
		}
	}
}

// P8.2 Top: none ahead of the first number, however often it is asked.
func TestTopOfNone(t *testing.T) {
	e := serial.New()
	topIsNone(t, e)
	topIsNone(t, e)
	goes(t, e, []step{{0, 65536, 65536}})
}

// P8.2 Extend, Top: numbers ahead of the greatest and behind it, written down ahead: the greatest one stays where a smaller one comes.
func TestSmallerOnesAndGreaterOnes(t *testing.T) {
	goes(t, serial.New(), []step{
		{100, 65636, 65636}, {50, 65586, 65636}, {65535, 65535, 65636}, {99, 65635, 65636},
		{101, 65637, 65637}, {100, 65636, 65637}, {0, 65536, 65637}, {32868, 98404, 98404},
		{101, 65637, 98404}, {33, 131105, 131105}, {65000, 130536, 131105}, {33000, 98536, 131105},
		{32869, 98405, 131105},
	})
}

// P8.2 Extend, Top: round after round, written down ahead.
func TestRoundAfterRound(t *testing.T) {
	goes(t, serial.New(), []step{
		{0, 65536, 65536}, {30000, 95536, 95536}, {60000, 125536, 125536}, {24464, 155536, 155536},
		{54464, 185536, 185536}, {18928, 215536, 215536}, {48928, 245536, 245536}, {13392, 275536, 275536},
	})
}

// P8.2 Extend: just half a round away, Diff is -32,768: the smaller one, and the greatest one stays. Below the first round there is room for it.
func TestHalfARoundAwayIsTheSmallerOne(t *testing.T) {
	for _, n := range starts() {
		first := 65536 + uint64(n)
		goes(t, serial.New(), []step{
			{n, first, first},
			{n + 32768, first - 32768, first},
			{n + 32769, first - 32767, first},
			{n + 32768, first - 32768, first},
			{n + 32767, first + 32767, first + 32767},
			{n + 65535, first - 1, first + 32767},
			{n, first, first + 32767},
		})
	}
	e := serial.New()
	goes(t, e, []step{{0, 65536, 65536}, {32767, 98303, 98303}, {65534, 131070, 131070}})
	goes(t, e, []step{{32766, 98302, 131070}, {32765, 163837, 163837}, {65533, 131069, 163837}})
}

// P8.2 Extend: each number, behind one greatest: the nearest, found by looking.
func TestEachNumberBehindAGreatestOne(t *testing.T) {
	for _, n := range []uint16{0, 1, 32767, 32768, 65535} {
		for i := 0; i < 65536; i += 257 {
			e := serial.New()
			top := e.Extend(n)
			want := nearest(top, uint16(i))
			goes(t, e, []step{{uint16(i), want, max(top, want)}})
		}
	}
}

// P8.2 Extend, Top: long runs that jump to and fro, against the nearest one by the chapter's words; the last 16 bits are those that were handed in.
func TestLongRuns(t *testing.T) {
	for seed := range uint32(20) {
		e := serial.New()
		x, top := seed, uint64(0)
		for i := range 5000 {
			x = x*1664525 + 1013904223
			n := uint16(x >> 16)
			want := 65536 + uint64(n)
			if i > 0 {
				want = uint64(int64(top) + int64(behind(uint16(top%65536), n)))
			}
			top = max(top, want)
			out := e.Extend(n)
			if got, ok := e.Top(); out != want || out%65536 != uint64(n) || got != top || !ok {
				t.Fatalf("seed %d, step %d: Extend(%d): %d, %d, %v, not %d, %d", seed, i, n, out, got, ok, want, top)
			}
		}
	}
}

// P8.2 Extend, 'What follows': numbers that come within 32,767 of the greatest are told apart, in whatever order, through many rounds and behind 32 bits.
func TestNumbersWithin32767AreToldApart(t *testing.T) {
	e := serial.New()
	greatest := uint64(65536 + 7)
	goes(t, e, []step{{7, greatest, greatest}})
	for range 150000 {
		greatest += 32767
		late := greatest - 32767
		goes(t, e, []step{{uint16(greatest), greatest, greatest}, {uint16(late), late, greatest}, {uint16(greatest - 1), greatest - 1, greatest}})
	}
	if greatest < 1<<32 {
		t.Errorf("%d is not behind 32 bits", greatest)
	}
}

// P8.2, R4: two Exts side by side don't hang on each other, and each run tells the same again.
func TestTwoSideBySide(t *testing.T) {
	one, other := serial.New(), serial.New()
	goes(t, one, []step{{65535, 131071, 131071}})
	topIsNone(t, other)
	goes(t, other, []step{{0, 65536, 65536}})
	goes(t, one, []step{{0, 131072, 131072}, {32767, 163839, 163839}})
	topIs(t, other, 65536)
	goes(t, other, []step{{65535, 65535, 65536}, {1, 65537, 65537}})
	topIs(t, one, 163839)
	goes(t, serial.New(), []step{{65535, 131071, 131071}, {0, 131072, 131072}, {32767, 163839, 163839}})
}

// R4: asking for Top changes nothing, nor do Less and Diff.
func TestAskingChangesNothing(t *testing.T) {
	asked, left := serial.New(), serial.New()
	x := uint32(9)
	for range 2000 {
		x = x*1664525 + 1013904223
		n := uint16(x >> 16)
		asked.Top()
		serial.Diff(n, uint16(x))
		serial.Less(n, uint16(x))
		asked.Top()
		if a, l := asked.Extend(n), left.Extend(n); a != l {
			t.Fatalf("Extend(%d): %d where it was asked, %d where not", n, a, l)
		}
	}
}

// P8.2: of a nil Ext: 0, no.
func TestNilExt(t *testing.T) {
	var none *serial.Ext
	topIsNone(t, none)
	for _, n := range starts() {
		if out := none.Extend(n); out != 0 {
			t.Errorf("Extend(%d) of nil: %d", n, out)
		}
		topIsNone(t, none)
	}
}

// P8.2: an Ext that New did not make is handed its first number as any other is.
func TestExtThatNewDidNotMake(t *testing.T) {
	var e serial.Ext
	topIsNone(t, &e)
	goes(t, &e, []step{{65535, 131071, 131071}, {0, 131072, 131072}})
}
