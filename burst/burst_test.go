package burst_test

import (
	"math"
	"slices"
	"testing"

	"girandole/burst"
)

// most is the longest row, greatest its look.
const (
	most     = math.MaxUint16
	greatest = 1048560
)

// ends are rows at the ends, and where fewer bits turn into others, of the row and of its look.
var ends = []uint16{
	0, 1, 2, 3, 4, 5, 7, 8, 9, 15, 16, 17, 255, 256, 257, 2047, 2048, 4095, 4096, 4097,
	16383, 16384, 32767, 32768, 32769, most - 4, most - 3, most - 2, most - 1, most,
}

// draw is a run of numbers that is the same each time.
type draw uint32

func (r *draw) next() uint32 {
	*r = *r*1664525 + 1013904223
	return uint32(*r)>>16 | uint32(*r)<<16
}

// below is one from 0 to n - 1.
func (r *draw) below(n int) int { return int(r.next() % uint32(n)) }

// row is one of 16 bits: as often a short one as a long one, none and one of the ends at times.
func (r *draw) row() uint16 {
	switch r.below(8) {
	case 0:
		return 0
	case 1, 2:
		return ends[r.below(len(ends))]
	}
	return uint16(r.next()) >> r.below(16)
}

// rows are n of them.
func (r *draw) rows(n int) []uint16 {
	var l []uint16
	for range n {
		l = append(l, r.row())
	}
	return l
}

// reckoned is the value behind these rows: at each it goes a quarter of the way to the look, down to the next number.
func reckoned(l []uint16) int {
	if len(l) == 0 {
		return 0
	}
	v := int(l[0]) << 4
	for _, n := range l[1:] {
		v += (int(n)<<4 - v) >> 2
	}
	return v
}

// is asks for a value.
func is(t *testing.T, b *burst.Burst, want int) {
	t.Helper()
	if v := b.Value(); v != want {
		t.Fatalf("Value: %d, not %d", v, want)
	}
}

// adds looks once, and asks for the value behind it.
func adds(t *testing.T, b *burst.Burst, n uint16, want int) {
	t.Helper()
	b.Add(n)
	if v := b.Value(); v != want {
		t.Fatalf("behind Add(%d): %d, not %d", n, v, want)
	}
}

// steps looks at the same again and again, and asks for each value.
func steps(t *testing.T, b *burst.Burst, n uint16, want ...int) {
	t.Helper()
	for _, w := range want {
		adds(t, b, n, w)
	}
}

// looked is a Burst that looked at these.
func looked(l ...uint16) *burst.Burst {
	b := burst.New()
	for _, n := range l {
		b.Add(n)
	}
	return b
}

// at is a Burst whose value is 16 times up, and over: up is from over to most less over.
func at(up, over int) *burst.Burst {
	return looked(uint16(up), uint16(up-over), uint16(up+over))
}

// Examples: Add(2): 32.
func TestExample(t *testing.T) {
	adds(t, burst.New(), 2, 32)
}

// P18.1 Value: 0 at first, however often it is asked for.
func TestValueAtFirst(t *testing.T) {
	b := burst.New()
	is(t, b, 0)
	is(t, b, 0)
	adds(t, b, 2, 32) // and asking is no look
}

// P18.1 Value: of a nil Burst 0, also behind an Add to it.
func TestNoBurst(t *testing.T) {
	var none *burst.Burst
	is(t, none, 0)
	for _, n := range ends {
		adds(t, none, n, 0)
		adds(t, none, n, 0)
	}
}

// R1: one that New did not make does not panic either.
func TestNotMade(t *testing.T) {
	var b burst.Burst
	for range 2 {
		for _, n := range ends {
			b.Value()
			b.Add(n)
		}
	}
}

// P18.1 Add: the first look is the value, whatever it is: each of 16 bits.
func TestEachFirstLook(t *testing.T) {
	for n := range most + 1 {
		want := 0
		for range 16 {
			want += n
		}
		adds(t, burst.New(), uint16(n), want)
	}
}

// P18.1 Add: first looks, written down ahead.
func TestFirstLooks(t *testing.T) {
	for _, c := range []struct {
		n    uint16
		want int
	}{
		{0, 0}, {1, 16}, {2, 32}, {3, 48}, {4, 64}, {5, 80}, {16, 256}, {255, 4080}, {256, 4096},
		{4095, 65520}, {4096, 65536}, {4097, 65552}, {32767, 524272}, {32768, 524288}, {32769, 524304}, {65534, 1048544}, {65535, 1048560},
	} {
		adds(t, burst.New(), c.n, c.want)
	}
}

// P18.1 Add: a first look of 0 is one: the one behind it is not the first any more.
func TestFirstLookOfNothing(t *testing.T) {
	for _, times := range []int{1, 2, 10} {
		for _, c := range []struct {
			n    uint16
			want int
		}{{4, 16}, {0, 0}, {1, 4}, {2, 8}, {65535, 262140}} {
			b := burst.New()
			for range times {
				adds(t, b, 0, 0)
			}
			adds(t, b, c.n, c.want)
		}
	}
}

// P18.1 Add: the first look stands for itself alone: the second one draws the value by a quarter, no more.
func TestTheSecondLook(t *testing.T) {
	for _, c := range []struct {
		first, second uint16
		want          int
	}{
		{2, 0, 24}, {0, 2, 8}, {2, 2, 32}, {0, 0, 0}, {1, 0, 12}, {0, 1, 4}, {1, 1, 16}, {1, 2, 20}, {2, 1, 28}, {1, 5, 32}, {5, 1, 64},
		{3, 65535, 262176}, {65535, 3, 786432}, {65535, 0, 786420}, {0, 65535, 262140}, {65535, 65535, 1048560},
		{65535, 65534, 1048556}, {65534, 65535, 1048548}, {4095, 4096, 65524}, {4096, 4095, 65532}, {32768, 32767, 524284},
	} {
		adds(t, looked(c.first), c.second, c.want)
	}
}

// P18.1 Add: from above, step by step, each cut off, down to 0.
func TestDownStepByStep(t *testing.T) {
	b := burst.New()
	adds(t, b, 65535, 1048560)
	steps(t, b, 0, 786420, 589815, 442361, 331770, 248827, 186620, 139965, 104973, 78729, 59046, 44284, 33213, 24909, 18681, 14010, 10507)
	steps(t, b, 0, 7880, 5910, 4432, 3324, 2493, 1869, 1401, 1050, 787, 590, 442, 331, 248, 186, 139, 104, 78, 58, 43, 32)
	steps(t, b, 0, 24, 18, 13, 9, 6, 4, 3, 2, 1, 0, 0, 0, 0)

	b = burst.New()
	adds(t, b, 2, 32)
	steps(t, b, 0, 24, 18, 13, 9, 6, 4, 3, 2, 1, 0, 0)
	adds(t, b, 4, 16) // and what is forgotten was looked at all the same
}

// P18.1 Add: from below, step by step, each cut off, as far up as that leads.
func TestUpStepByStep(t *testing.T) {
	b := burst.New()
	adds(t, b, 0, 0)
	steps(t, b, 65535, 262140, 458745, 606198, 716788, 799731, 861938, 908593, 943584, 969828, 989511, 1004273, 1015344, 1023648, 1029876, 1034547, 1038050)
	steps(t, b, 65535, 1040677, 1042647, 1044125, 1045233, 1046064, 1046688, 1047156, 1047507, 1047770, 1047967, 1048115, 1048226, 1048309, 1048371)
	steps(t, b, 65535, 1048418, 1048453, 1048479, 1048499, 1048514, 1048525, 1048533, 1048539, 1048544, 1048548, 1048551, 1048553, 1048554, 1048555)
	steps(t, b, 65535, 1048556, 1048557, 1048557, 1048557)

	b = burst.New()
	adds(t, b, 0, 0)
	steps(t, b, 1, 4, 7, 9, 10, 11, 12, 13, 13, 13)
}

// P18.1 Add: to a look in the midst, step by step, from above and from below.
func TestToTheMidstStepByStep(t *testing.T) {
	b := burst.New()
	adds(t, b, 65535, 1048560)
	steps(t, b, 1000, 790420, 596815, 451611, 342708, 261031, 199773, 153829, 119371, 93528, 74146, 59609, 48706, 40529, 34396, 29797)
	b = burst.New()
	adds(t, b, 0, 0)
	steps(t, b, 1000, 4000, 7000, 9250, 10937, 12202, 13151, 13863, 14397, 14797, 15097, 15322, 15491, 15618, 15713, 15784)
	b = burst.New()
	adds(t, b, 9, 144)
	steps(t, b, 1, 112, 88, 70, 56, 46, 38, 32, 28, 25, 22, 20, 19, 18, 17, 16, 16, 16)
	b = burst.New()
	adds(t, b, 1, 16)
	steps(t, b, 9, 48, 72, 90, 103, 113, 120, 126, 130, 133, 135, 137, 138, 139, 140, 141, 141, 141)
}

// P18.1 Add: 0 is a look between others too: each draws the value down by a quarter.
func TestNothingBetweenOthers(t *testing.T) {
	for _, c := range []struct {
		rows []uint16
		want []int
	}{
		{[]uint16{2, 0, 0, 5, 0, 1, 0, 0, 0, 7, 0, 0, 0, 0, 3, 0, 0}, []int{32, 24, 18, 33, 24, 22, 16, 12, 9, 34, 25, 18, 13, 9, 18, 13, 9}},
		{[]uint16{10, 0, 10, 0, 10, 0, 10, 0}, []int{160, 120, 130, 97, 112, 84, 103, 77}},
		{[]uint16{0, 0, 4, 0, 0, 4}, []int{0, 0, 16, 12, 9, 22}},
	} {
		b := burst.New()
		for i, n := range c.rows {
			adds(t, b, n, c.want[i])
		}
	}
}

// P18.1 Add: each value, and some looks behind it: 3 times the value and the look, over 4, cut off.
func TestEachValueAndALaterLook(t *testing.T) {
	for up := 15; up <= most-15; up += 13 {
		for over := range 16 {
			value := 16*up + over
			is(t, at(up, over), value)
			for _, n := range []uint16{0, 1, 3, 4096, 32768, 65535} {
				adds(t, at(up, over), n, (value+value+value+16*int(n))>>2)
			}
		}
	}
}

// P18.1 Add: the greatest ones again and again: the value stays.
func TestTheGreatestAgainAndAgain(t *testing.T) {
	b := burst.New()
	for range 100000 {
		adds(t, b, most, greatest)
	}
}

// P18.1 Add: the same look again and again is the value: each of 16 bits.
func TestTheSameLookAgain(t *testing.T) {
	for n := range most + 1 {
		b := burst.New()
		steps(t, b, uint16(n), 16*n, 16*n, 16*n, 16*n)
	}
}

// P18.1: drawn runs against another reckoning of the chapter's words.
func TestDrawnRuns(t *testing.T) {
	for seed := range draw(300) {
		r, b := seed, burst.New()
		l := r.rows(200)
		for i, n := range l {
			adds(t, b, n, reckoned(l[:i+1]))
		}
	}
}

// 'What follows': a long row is forgotten by a quarter each time, cut off, down to 0, whatever it is.
func TestLongRowsAreForgotten(t *testing.T) {
	for n := range most + 1 {
		b, last := looked(uint16(n)), 16*n
		for last > 0 {
			left := last - (last+3)/4
			adds(t, b, 0, left)
			last = left
		}
		steps(t, b, 0, 0, 0, 0)
	}
}

// 'What follows': slowly: the longer the row, the later it is forgotten.
func TestForgottenSlowly(t *testing.T) {
	for _, c := range []struct {
		n     uint16
		times int
	}{{0, 0}, {1, 8}, {2, 10}, {3, 12}, {65535, 46}} {
		b := looked(c.n)
		for i := range c.times {
			if b.Value() == 0 {
				t.Errorf("%d: forgotten behind %d looks, not %d", c.n, i, c.times)
			}
			b.Add(0)
		}
		is(t, b, 0)
	}
}

// P18.1: in drawn runs the value lies between the least and the greatest of what was looked at.
func TestBetweenTheLeastAndTheGreatest(t *testing.T) {
	for seed := range draw(300) {
		r, b := seed, burst.New()
		low := r.below(most + 1)
		wide := 1 + r.below(most+1-low)
		if seed%3 == 0 {
			wide = 1 + r.below(min(wide, 3)) // near to one another, where what is cut off weighs most
		}
		var looks []int
		for range 200 {
			n := low + r.below(wide)
			looks = append(looks, 16*n)
			b.Add(uint16(n))
			if v := b.Value(); v < slices.Min(looks) || v > slices.Max(looks) {
				t.Fatalf("seed %d: %d, looks %v", seed, v, looks)
			}
		}
	}
}

// P18.1: what is looked at for long comes near: from above it is reached, from below less than 4 are left; and it comes nearer at each step until then.
func TestComesNear(t *testing.T) {
	for _, from := range ends {
		for _, n := range ends {
			b, last, to := looked(from), 16*int(from), 16*int(n)
			for range 60 {
				b.Add(n)
				v := b.Value()
				if last > to && (v >= last || v < to) || last <= to && (v < last || v > to || v == last && to-v >= 4) {
					t.Fatalf("from %d to %d: %d behind %d", from, n, v, last)
				}
				last = v
			}
			if last > to || to-last >= 4 {
				t.Errorf("from %d to %d: %d", from, n, last)
			}
		}
	}
}

// R4: asking changes nothing, and the same looks tell the same each time.
func TestTheSameLooksTellTheSame(t *testing.T) {
	r := draw(3)
	asked, l := burst.New(), r.rows(2000)
	for _, n := range l {
		asked.Add(n)
		first := asked.Value()
		for range r.below(4) {
			is(t, asked, first)
		}
	}
	is(t, asked, looked(l...).Value())
	is(t, looked(l...), looked(l...).Value())
}

// R4: two Bursts side by side don't hang on each other, nor on one that is nil.
func TestTwoSideBySide(t *testing.T) {
	one, other := burst.New(), burst.New()
	var none *burst.Burst
	adds(t, one, 65535, 1048560)
	is(t, other, 0)
	adds(t, other, 2, 32) // it is the first one here
	is(t, one, 1048560)
	adds(t, one, 0, 786420)
	none.Add(7)
	is(t, other, 32)
	adds(t, other, 0, 24)
	is(t, one, 786420)
	is(t, none, 0)
	is(t, burst.New(), 0)

	r, both := draw(9), []*burst.Burst{burst.New(), burst.New()}
	seen := make([][]uint16, 2)
	for range 300 {
		i, n := r.below(2), r.row()
		both[i].Add(n)
		seen[i] = append(seen[i], n)
		is(t, both[0], reckoned(seen[0]))
		is(t, both[1], reckoned(seen[1]))
	}
}
