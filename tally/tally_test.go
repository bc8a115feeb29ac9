package tally_test

import (
	"math"
	"runtime"
	"slices"
	"testing"

	"girandole/api"
	"girandole/serial"
	"girandole/tally"
)

// base is what the first number has below it.
const base = 65536

// draw is a run of numbers that is the same each time.
type draw uint32

func (r *draw) next() uint32 {
	*r = *r*1664525 + 1013904223
	return uint32(*r)>>16 | uint32(*r)<<16
}

// below is one from 0 to n - 1.
func (r *draw) below(n int) int { return int(r.next() % uint32(n)) }

// shuffled is l in another order.
func (r *draw) shuffled(l []uint16) []uint16 {
	l = slices.Clone(l)
	for i := len(l) - 1; i > 0; i-- {
		j := r.below(i + 1)
		l[i], l[j] = l[j], l[i]
	}
	return l
}

// model tells what the chapter says, number by number: all that ever came is kept, and each number is looked at.
type model struct {
	ext         *serial.Ext
	came        map[uint64]int
	since       uint64
	late, twice uint64
}

func newModel() *model { return &model{ext: serial.New(), came: map[uint64]int{}} }

func (m *model) got(n uint16) (uint64, bool) {
	_, some := m.ext.Top()
	x := m.ext.Extend(n)
	if !some {
		m.since = x - 1
	}
	m.came[x]++
	if m.came[x] > 1 {
		m.twice++
		return x, false
	}
	if x <= m.since {
		m.late++
	}
	return x, true
}

func (m *model) report() api.Report {
	top, some := m.ext.Top()
	if !some {
		return api.Report{}
	}
	var lost, got, row, most uint64
	for x := m.since + 1; x <= top; x++ {
		if m.came[x] > 0 {
			got, row = got+1, 0
			continue
		}
		lost, row = lost+1, row+1
		most = max(most, row)
	}
	m.since = top
	return api.Report{
		Top:   top,
		Lost:  uint32(min(lost, math.MaxUint32)),
		Got:   uint32(min(got, math.MaxUint32)),
		Burst: uint16(min(most, 65535)),
	}
}

// both is a Tally and a model that are handed the same numbers.
type both struct {
	t *testing.T
	y *tally.Tally
	m *model
}

func newBoth(t *testing.T) both { return both{t, tally.New(), newModel()} }

func (b both) got(n uint16) {
	b.t.Helper()
	x, first := b.m.got(n)
	gets(b.t, b.y, n, x, first)
	countsAre(b.t, b.y, b.m.late, b.m.twice)
}

func (b both) report() {
	b.t.Helper()
	reports(b.t, b.y, b.m.report())
}

// gets hands a number in and asks for what is told of it.
func gets(t *testing.T, y *tally.Tally, n uint16, want uint64, first bool) {
	t.Helper()
	if x, ok := y.Got(n); x != want || ok != first {
		t.Fatalf("Got(%d): %d, %v, not %d, %v", n, x, ok, want, first)
	}
}

// come hands numbers in that all come the first time.
func come(t *testing.T, y *tally.Tally, l ...uint16) {
	t.Helper()
	for _, n := range l {
		if x, ok := y.Got(n); !ok || uint16(x) != n {
			t.Fatalf("Got(%d): %d, %v", n, x, ok)
		}
	}
}

// again hands numbers in that all came before.
func again(t *testing.T, y *tally.Tally, l ...uint16) {
	t.Helper()
	for _, n := range l {
		if x, ok := y.Got(n); ok || uint16(x) != n {
			t.Fatalf("Got(%d) again: %d, %v", n, x, ok)
		}
	}
}

func reports(t *testing.T, y *tally.Tally, want api.Report) {
	t.Helper()
	if r := y.Report(); r != want {
		t.Fatalf("Report: %+v, not %+v", r, want)
	}
}

func countsAre(t *testing.T, y *tally.Tally, late, twice uint64) {
	t.Helper()
	if y.Late() != late || y.Twice() != twice {
		t.Fatalf("late %d, twice %d, not %d, %d", y.Late(), y.Twice(), late, twice)
	}
}

// jump hands in so many numbers, each step above the one before, from top on, and tells the last one.
func jump(t *testing.T, y *tally.Tally, top uint64, step, times int) uint64 {
	t.Helper()
	for range times {
		top += uint64(step)
		if x, first := y.Got(uint16(top)); x != top || !first {
			t.Fatalf("Got(%d): %d, %v, not %d", uint16(top), x, first, top)
		}
	}
	return top
}

// Examples: Got(1), Got(3), Report: Lost 1, Got 2, Burst 1.
func TestExample(t *testing.T) {
	y := tally.New()
	gets(t, y, 1, base+1, true)
	gets(t, y, 3, base+3, true)
	reports(t, y, api.Report{Top: base + 3, Lost: 1, Got: 2, Burst: 1})
	countsAre(t, y, 0, 0)
}

// P16.1 Got: the first one is 65,536 and n, whichever n it is; it came the first time, and is not late.
func TestEachFirstNumber(t *testing.T) {
	for n := range 65536 {
		y := tally.New()
		gets(t, y, uint16(n), base+uint64(n), true)
		countsAre(t, y, 0, 0)
		reports(t, y, api.Report{Top: base + uint64(n), Got: 1})
	}
}

// P16.1 Got: extended numbers where the numbers go round, back and forth, written down ahead.
func TestNumbersThatGoRound(t *testing.T) {
	y := tally.New()
	gets(t, y, 65535, 131071, true)
	gets(t, y, 0, 131072, true)
	gets(t, y, 65534, 131070, true)
	gets(t, y, 2, 131074, true)
	gets(t, y, 0, 131072, false)
	gets(t, y, 65535, 131071, false)
	gets(t, y, 1, 131073, true)
	gets(t, y, 32769, 163841, true)
	gets(t, y, 65536-32767, 163841, false)
	gets(t, y, 1, 131073, false)
	gets(t, y, 0, 196608, true)
	gets(t, y, 65535, 196607, true)
	countsAre(t, y, 1, 4)
	reports(t, y, api.Report{Top: 196608, Lost: 65538 - 7, Got: 7, Burst: 32766})
}

// P16.1 Got: as serial has it, over runs that jump to and fro by all that 16 bits can, with Reports between.
func TestNumbersAsSerialHasThem(t *testing.T) {
	for seed := range draw(10) {
		r, y, e := seed, tally.New(), serial.New()
		for i := range 3000 {
			n := uint16(r.next())
			want := e.Extend(n)
			if x, _ := y.Got(n); x != want {
				t.Fatalf("seed %d, step %d: Got(%d): %d, not %d", seed, i, n, x, want)
			}
			if i%97 == 0 {
				top, _ := e.Top()
				if r := y.Report(); r.Top != top {
					t.Fatalf("seed %d, step %d: Top %d, not %d", seed, i, r.Top, top)
				}
			}
		}
	}
}

// P16.1 Got, Twice: a number that comes twice, three times, much later, behind a Report: the first time once, and each other time counts.
func TestNumbersThatComeAgain(t *testing.T) {
	y := tally.New()
	come(t, y, 5)
	again(t, y, 5)
	countsAre(t, y, 0, 1)
	again(t, y, 5)
	countsAre(t, y, 0, 2)
	come(t, y, 6, 8, 20000)
	again(t, y, 5, 6, 20000, 8)
	countsAre(t, y, 0, 6)
	reports(t, y, api.Report{Top: base + 20000, Lost: 19996 - 4, Got: 4, Burst: 19991})
	again(t, y, 5, 20000, 8)
	countsAre(t, y, 0, 9)
	come(t, y, 7)
	again(t, y, 7, 7)
	countsAre(t, y, 1, 11)
	reports(t, y, api.Report{Top: base + 20000})
	again(t, y, 7, 5)
	countsAre(t, y, 1, 13)
}

// P16.1 Got: of numbers as far below the greatest as one may come, half a round, it is known whether they came; those farther away are others.
func TestNumbersAsFarBelowAsTheyMayCome(t *testing.T) {
	for _, start := range []uint16{0, 1, 5, 32766, 32767, 32768, 65535} {
		y := tally.New()
		first := base + uint64(start)
		gets(t, y, start, first, true)
		gets(t, y, start+32767, first+32767, true)
		gets(t, y, start, first, false)
		gets(t, y, start+32768, first+32768, true)
		gets(t, y, start, first, false) // just half a round below
		gets(t, y, start+1, first+1, true)
		gets(t, y, start+1, first+1, false)
		gets(t, y, start+32769, first+32769, true)
		gets(t, y, start, first+65536, true) // half a round and one below it would have been: it is the one above
		gets(t, y, start+32768, first+32768, false)
		gets(t, y, start+32769, first+32769, false)
		gets(t, y, start+32770, first+32770, true)
		countsAre(t, y, 0, 5)
		reports(t, y, api.Report{Top: first + 65536, Lost: 65537 - 7, Got: 7, Burst: 32765})
	}
}

// P16.1 Got: each number of a whole window below the greatest came or did not, and is told so, behind a Report too.
func TestEachNumberBelowTheGreatest(t *testing.T) {
	for _, between := range []bool{false, true} {
		y := tally.New()
		gets(t, y, 0, base, true)
		for n := 3; n <= 32768; n += 3 {
			come(t, y, uint16(n))
		}
		come(t, y, 32768)
		if between {
			reports(t, y, api.Report{Top: base + 32768, Lost: 2*10922 + 1, Got: 10924, Burst: 2})
		}
		for n := range 32769 {
			gets(t, y, uint16(n), base+uint64(n), n%3 != 0 && n != 32768)
		}
		if between {
			countsAre(t, y, 2*10922+1, 10924)
			reports(t, y, api.Report{Top: base + 32768})
		} else {
			countsAre(t, y, 0, 10924)
			reports(t, y, api.Report{Top: base + 32768, Got: 32769})
		}
	}
}

// P16.1 Late: the first one ever is not late; those below it that come the first time are, and they count nowhere else.
func TestLateOnesBelowTheFirst(t *testing.T) {
	y := tally.New()
	countsAre(t, y, 0, 0)
	come(t, y, 100)
	countsAre(t, y, 0, 0)
	come(t, y, 99)
	countsAre(t, y, 1, 0)
	come(t, y, 101)
	countsAre(t, y, 1, 0)
	come(t, y, 50, 65535)
	countsAre(t, y, 3, 0)
	again(t, y, 99, 65535, 50)
	countsAre(t, y, 3, 3)
	reports(t, y, api.Report{Top: base + 101, Got: 2})
}

// P16.1 Late: behind a Report, just at since nobody comes the first time, just below it one is late, just above it none is.
func TestLateOnesBehindAReport(t *testing.T) {
	y := tally.New()
	come(t, y, 10, 20)
	reports(t, y, api.Report{Top: base + 20, Lost: 9, Got: 2, Burst: 9})
	again(t, y, 20)
	countsAre(t, y, 0, 1)
	come(t, y, 19)
	countsAre(t, y, 1, 1)
	come(t, y, 21)
	countsAre(t, y, 1, 1)
	come(t, y, 11)
	countsAre(t, y, 2, 1)
	again(t, y, 19, 11, 10)
	countsAre(t, y, 2, 4)
	come(t, y, 9)
	countsAre(t, y, 3, 4)
	reports(t, y, api.Report{Top: base + 21, Got: 1})
	come(t, y, 12, 30, 25)
	countsAre(t, y, 4, 4)
	reports(t, y, api.Report{Top: base + 30, Lost: 7, Got: 2, Burst: 4})
}

// P16.1 Late, 'Words': since is the Top that was told, not the number that came last.
func TestSinceIsTheTopThatWasTold(t *testing.T) {
	y := tally.New()
	come(t, y, 10, 20, 15)
	reports(t, y, api.Report{Top: base + 20, Lost: 8, Got: 3, Burst: 4})
	come(t, y, 18)
	countsAre(t, y, 1, 0)
	reports(t, y, api.Report{Top: base + 20})
	come(t, y, 22)
	countsAre(t, y, 1, 0)
	reports(t, y, api.Report{Top: base + 22, Lost: 1, Got: 1, Burst: 1})
}

// P16.1 Late: above since, though far below the greatest, is not late; it takes away what would be lost.
func TestOnesBelowTheGreatestAreNotLate(t *testing.T) {
	y := tally.New()
	come(t, y, 1, 9, 5, 3, 4)
	countsAre(t, y, 0, 0)
	reports(t, y, api.Report{Top: base + 9, Lost: 4, Got: 5, Burst: 3})
}

// P16.1 Report, 'Words': ahead of the first number all is 0, however often it is asked for, and nothing is changed by it.
func TestReportAheadOfTheFirst(t *testing.T) {
	for _, times := range []int{0, 1, 2, 10} {
		y := tally.New()
		for range times {
			reports(t, y, api.Report{})
			countsAre(t, y, 0, 0)
		}
		gets(t, y, 7, base+7, true)
		gets(t, y, 6, base+6, true)
		gets(t, y, 9, base+9, true)
		countsAre(t, y, 1, 0)
		reports(t, y, api.Report{Top: base + 9, Lost: 1, Got: 2, Burst: 1})
	}
}

// P16.1 Report: behind one number alone, and twice in a row: the second one tells nothing but Top.
func TestReportsInARow(t *testing.T) {
	y := tally.New()
	come(t, y, 65535)
	reports(t, y, api.Report{Top: 131071, Got: 1})
	reports(t, y, api.Report{Top: 131071})
	reports(t, y, api.Report{Top: 131071})
	again(t, y, 65535)
	reports(t, y, api.Report{Top: 131071})
	come(t, y, 1)
	reports(t, y, api.Report{Top: 131073, Lost: 1, Got: 1, Burst: 1})
	reports(t, y, api.Report{Top: 131073})
	countsAre(t, y, 0, 1)
}

// P16.1 Report: behind late ones alone, and behind ones alone that came again: nothing but Top.
func TestReportBehindLateOnesAlone(t *testing.T) {
	y := tally.New()
	come(t, y, 10, 15)
	reports(t, y, api.Report{Top: base + 15, Lost: 4, Got: 2, Burst: 4})
	come(t, y, 14, 12, 3)
	countsAre(t, y, 3, 0)
	reports(t, y, api.Report{Top: base + 15})
	again(t, y, 14, 15, 10, 3)
	reports(t, y, api.Report{Top: base + 15})
	countsAre(t, y, 3, 4)
}

// P16.1 Report: each number counts once, however often it came.
func TestEachNumberCountsOnce(t *testing.T) {
	y := tally.New()
	come(t, y, 1)
	again(t, y, 1, 1, 1)
	come(t, y, 4)
	again(t, y, 4, 1)
	come(t, y, 2)
	again(t, y, 2, 2, 4)
	reports(t, y, api.Report{Top: base + 4, Lost: 1, Got: 3, Burst: 1})
	countsAre(t, y, 0, 8)
}

// P16.1 Report, Burst: the longest row at the beginning, in the midst, at the end, just behind since, of several the longest, none where none is lost.
func TestRowsThatAreLost(t *testing.T) {
	for _, c := range []struct {
		l           []uint16
		lost, burst int
	}{
		{[]uint16{1, 2, 3, 4, 5, 6}, 0, 0},
		{[]uint16{1, 5, 6, 7, 9, 10}, 4, 3},
		{[]uint16{1, 2, 3, 7, 8, 9, 11}, 4, 3},
		{[]uint16{1, 2, 4, 5, 6, 10}, 4, 3},
		{[]uint16{1, 3, 5, 7, 9}, 4, 1},
		{[]uint16{1, 4, 8, 11, 13}, 8, 3},
		{[]uint16{1, 10}, 8, 8},
		{[]uint16{1, 10, 5}, 7, 4},
		{[]uint16{1, 10, 6, 5}, 6, 3},
		{[]uint16{1}, 0, 0},
	} {
		top := uint64(slices.Max(c.l))
		want := api.Report{Top: base + top, Lost: uint32(c.lost), Got: uint32(len(c.l)), Burst: uint16(c.burst)}
		y := tally.New()
		come(t, y, c.l...)
		reports(t, y, want)

		// The same ones, all of them behind since: the first of them no row begins with.
		y = tally.New()
		come(t, y, 65535)
		reports(t, y, api.Report{Top: 131071, Got: 1})
		come(t, y, c.l...)
		want.Top += base
		want.Lost++ // 0 is lost too
		want.Burst = max(want.Burst, 1)
		reports(t, y, want)
	}
}

// P16.1 Report, Burst: a row just behind since is the longest, as far as one number may lie above another.
func TestTheRowJustBehindSince(t *testing.T) {
	for _, far := range []int{1, 2, 3, 100, 32766, 32767} {
		y := tally.New()
		come(t, y, 3)
		reports(t, y, api.Report{Top: base + 3, Got: 1})
		come(t, y, uint16(3+far))
		reports(t, y, api.Report{Top: base + 3 + uint64(far), Lost: uint32(far - 1), Got: 1, Burst: uint16(far - 1)})
		come(t, y, uint16(3+far+1))
		reports(t, y, api.Report{Top: base + 4 + uint64(far), Got: 1})
	}
}

// P16.1 Report, Burst: a row that a Report cuts in two is told by neither as one.
func TestARowOnBothSidesOfAReport(t *testing.T) {
	y := tally.New()
	come(t, y, 1, 10)
	reports(t, y, api.Report{Top: base + 10, Lost: 8, Got: 2, Burst: 8})
	come(t, y, 14)
	reports(t, y, api.Report{Top: base + 14, Lost: 3, Got: 1, Burst: 3})
	come(t, y, 20, 15, 17)
	reports(t, y, api.Report{Top: base + 20, Lost: 3, Got: 3, Burst: 2})
}

// P16.1 Report, Burst: rows of which one end is far out of reach count as those near the greatest do; one that is filled up in time does not.
func TestRowsThatAreFarOutOfReach(t *testing.T) {
	y := tally.New()
	come(t, y, 0, 101, 99) // 98 are lost below 99
	top := jump(t, y, base+101, 2, 100000)
	reports(t, y, api.Report{Top: top, Lost: 98 + 1 + 100000, Got: 3 + 100000, Burst: 98})
	top = jump(t, y, top, 1, 100000)
	reports(t, y, api.Report{Top: top, Got: 100000})
	top = jump(t, y, top, 30000, 2)
	for x := top - 30000 + 1; x < top; x++ {
		gets(t, y, uint16(x), x, true)
	}
	top = jump(t, y, top, 1, 100000)
	reports(t, y, api.Report{Top: top, Lost: 29999, Got: 2 + 29999 + 100000, Burst: 29999})
	top = jump(t, y, top, 30000, 1)
	for x := top - 1; x > top-30000; x-- {
		gets(t, y, uint16(x), x, true)
	}
	top = jump(t, y, top, 7, 20000)
	reports(t, y, api.Report{Top: top, Lost: 6 * 20000, Got: 50000, Burst: 6})
}

// P16.1 Report, Burst: a row from a number that came in time to one that came far above: what is filled up in its midst parts it.
func TestARowThatIsPartedInItsMidst(t *testing.T) {
	for _, at := range []uint64{1, 2, 100, 16383, 16384, 32765, 32766} {
		for _, start := range []uint16{0, 1, 32767, 32768, 40000, 65535} {
			y := tally.New()
			first := base + uint64(start)
			gets(t, y, start, first, true)
			gets(t, y, start+32767, first+32767, true)
			gets(t, y, start+uint16(at), first+at, true)
			most := uint16(max(at-1, 32767-at-1))
			top := jump(t, y, first+32767, 1, 40000)
			reports(t, y, api.Report{Top: top, Lost: 32765, Got: 3 + 40000, Burst: most})
			countsAre(t, y, 0, 0)
		}
	}
}

// P16.1 Report: Lost beyond 32 bits is 2^32 - 1, just below it and just at it, it is itself; Top goes on.
func TestLostBeyond32Bits(t *testing.T) {
	const most = math.MaxUint32
	for _, c := range []struct {
		last int
		want uint32
	}{{15, most - 1}, {16, most}, {17, most}, {32767, most}} {
		y := tally.New()
		come(t, y, 0)
		top := jump(t, y, base, 32767, 131080)   // 2^32 - 16 are lost so far
		top = jump(t, y, top, c.last, 1)         // and one less than that
		all := uint64(131080*32766 + c.last - 1) // all of them
		if want := uint32(min(all, most)); want != c.want {
			t.Fatalf("the test is wrong: %d are lost", all)
		}
		reports(t, y, api.Report{Top: top, Lost: c.want, Got: 131082, Burst: 32766})
		come(t, y, uint16(top+3))
		reports(t, y, api.Report{Top: top + 3, Lost: 2, Got: 1, Burst: 2})
		countsAre(t, y, 0, 0)
	}
}

// P16.1 Report: in whatever order the same numbers come, as long as the first one is the same, it tells the same, and as many are late.
func TestOrderWithinAReport(t *testing.T) {
	r := draw(5)
	for range 60 {
		first := uint16(r.next())
		var l []uint16
		for range 1 + r.below(40) {
			l = append(l, first+uint16(r.below(300))-100)
		}
		l = append(l, first+uint16(r.below(4))*8000)
		want, late, twice := api.Report{}, uint64(0), uint64(0)
		for i := range 20 {
			y := tally.New()
			y.Got(first)
			for _, n := range r.shuffled(l) {
				y.Got(n)
			}
			is := y.Report()
			if i == 0 {
				want, late, twice = is, y.Late(), y.Twice()
			}
			if is != want || y.Late() != late || y.Twice() != twice {
				t.Fatalf("%+v, %d, %d, not %+v, %d, %d", is, y.Late(), y.Twice(), want, late, twice)
			}
		}
	}
}

// P16.1: drawn runs against the chapter's words, number by number: ordinary ones that go up with losses, doubles and late ones.
func TestOrdinaryRuns(t *testing.T) {
	for seed := range draw(100) {
		r, b := seed, newBoth(t)
		next := uint16(r.next())
		for range 400 {
			switch r.below(8) {
			case 0: // lost
			case 1: // late, or again
				b.got(next - uint16(r.below(40)))
			case 2:
				if r.below(4) == 0 {
					b.report()
				}
				b.got(next)
			case 3:
				next += uint16(r.below(30))
				b.got(next)
			default:
				b.got(next)
			}
			next++
		}
		b.report()
	}
}

// P16.1: drawn runs against the chapter's words, number by number: wild ones, over many rounds.
func TestWildRuns(t *testing.T) {
	for seed := range draw(40) {
		r, b := seed, newBoth(t)
		for i := range 200 {
			b.got(uint16(r.next()))
			if top, _ := b.m.ext.Top(); r.below(3) == 0 {
				// Just at the edges of what may come.
				edges := []uint64{0, 1, 32767, 32768, 32769, 65535}
				b.got(uint16(top + edges[r.below(len(edges))]))
			}
			if seed%3 == 0 && r.below(10) == 0 || i == 100 {
				b.report()
			}
		}
		b.report()
		b.report()
	}
}

// P16.1: drawn runs against the chapter's words, number by number: dense ones that are filled up far below the greatest.
func TestDenseRuns(t *testing.T) {
	for seed := range draw(6) {
		r, b := seed+50, newBoth(t)
		top := uint16(r.next())
		for range 60000 {
			top += uint16(r.below(4))
			b.got(top)
			if r.below(3) == 0 {
				b.got(top - uint16(r.below(32769)))
			}
			if seed%2 == 0 && r.below(9000) == 0 {
				b.report()
			}
		}
		b.report()
	}
}

// 'What follows': of drawn rows of packets, some of which are lost, some come twice or late, what is lost and what came is what was sent, with Reports between.
func TestWhatIsLostAndWhatCameIsWhatWasSent(t *testing.T) {
	for seed := range draw(50) {
		r, y := seed, tally.New()
		start := uint16(r.next())
		come(t, y, start)
		sent, came, lost, got, late := uint64(1), uint64(1), uint64(0), uint64(0), uint64(0)
		told := func() {
			t.Helper()
			is := y.Report()
			lost, got = lost+uint64(is.Lost), got+uint64(is.Got)
			if is.Top != base+uint64(start)+sent-1 || lost+got != sent || got+y.Late() != came || uint32(is.Burst) > is.Lost || y.Late() < late {
				t.Fatalf("seed %d: sent %d, came %d, late %d: %+v, in all lost %d, got %d", seed, sent, came, y.Late(), is, lost, got)
			}
			late = y.Late()
		}
		for range 30 {
			var way []uint16
			for range r.below(200) {
				if r.below(4) > 0 {
					way = append(way, start+uint16(sent))
				}
				sent++
			}
			way = append(way, start+uint16(sent)) // the last one comes
			sent++
			for _, n := range r.shuffled(way) {
				come(t, y, n)
				came++
				if r.below(5) == 0 {
					again(t, y, n)
				}
			}
			told()
		}
		told()
	}
}

// P16.1, R1: long runs without a Report end, in order, in jumps as great as may be, and to and fro at the ends of what may come.
func TestLongRunsEnd(t *testing.T) {
	y := tally.New()
	come(t, y, 0)
	top := jump(t, y, base, 1, 1000000)
	top = jump(t, y, top, 2, 1)
	reports(t, y, api.Report{Top: top, Lost: 1, Got: 1000002, Burst: 1})
	for range 100000 {
		top += 32767
		gets(t, y, uint16(top), top, true)
		gets(t, y, uint16(top-32768), top-32768, true)
	}
	// The one half a round below lies just below the one before.
	reports(t, y, api.Report{Top: top, Lost: 100000*32766 - 99999, Got: 200000 - 1, Burst: 32766})
	countsAre(t, y, 1, 0)
}

// P16.1, R1: a Report behind each number, in order and in great jumps, where many numbers may still come again.
func TestAReportBehindEachNumber(t *testing.T) {
	y := tally.New()
	come(t, y, 65000)
	top := uint64(base + 65000)
	reports(t, y, api.Report{Top: top, Got: 1})
	for i := range 200000 {
		far := uint64(1)
		if i%2000 == 0 {
			far = 32767
		}
		top = jump(t, y, top, int(far), 1)
		reports(t, y, api.Report{Top: top, Lost: uint32(far - 1), Got: 1, Burst: uint16(far - 1)})
	}
	countsAre(t, y, 0, 0)
}

// P16.1: no more is kept than what may come again asks for, however long the run, with Reports and without.
func TestLittleIsKept(t *testing.T) {
	for _, every := range []int{0, 1000} {
		y := tally.New()
		come(t, y, 0)
		before := held()
		top := uint64(base)
		for i := range 3000 {
			top = jump(t, y, top, 1, 1000)
			if every > 0 && i%(every/1000) == 0 {
				y.Report()
			}
		}
		if after := held(); after > before+16<<20 {
			t.Errorf("reports each %d: %d bytes are held, %d before", every, after, before)
		}
		runtime.KeepAlive(y)
	}
}

// held is how many bytes are held.
func held() uint64 {
	runtime.GC()
	var m runtime.MemStats
	runtime.ReadMemStats(&m)
	return m.HeapAlloc
}

// R4: asking for Late and Twice changes nothing.
func TestAskingChangesNothing(t *testing.T) {
	asked, left, r := tally.New(), tally.New(), draw(3)
	for i := range 3000 {
		n := uint16(r.next() % 3000 * uint32(1+i/1000))
		asked.Late()
		asked.Twice()
		x, first := left.Got(n)
		gets(t, asked, n, x, first)
		countsAre(t, asked, left.Late(), left.Twice())
		if r.below(50) == 0 {
			reports(t, asked, left.Report())
		}
	}
}

// R4: the same numbers tell the same each time, and two tallies side by side don't hang on each other.
func TestTwoSideBySide(t *testing.T) {
	one, other := tally.New(), tally.New()
	come(t, one, 5, 9)
	reports(t, other, api.Report{})
	countsAre(t, other, 0, 0)
	gets(t, other, 9, base+9, true)
	come(t, other, 7, 12)
	countsAre(t, one, 0, 0)
	reports(t, one, api.Report{Top: base + 9, Lost: 3, Got: 2, Burst: 3})
	reports(t, other, api.Report{Top: base + 12, Lost: 2, Got: 2, Burst: 2})
	again(t, one, 5)
	countsAre(t, one, 0, 1)
	countsAre(t, other, 1, 0)
	come(t, other, 5)
	countsAre(t, one, 0, 1)

	var want []api.Report
	for i := range 5 {
		r, y := draw(77), tally.New()
		var is []api.Report
		for range 5000 {
			y.Got(uint16(r.next()))
			if r.below(100) == 0 {
				is = append(is, y.Report())
			}
		}
		if i == 0 {
			want = is
		}
		if !slices.Equal(is, want) {
			t.Fatalf("time %d: the same numbers tell other reports", i)
		}
	}
}

// P16.1: of a nil Tally: 0, no, a zero Report, 0, 0; so of one that New did not make.
func TestNoTally(t *testing.T) {
	var none *tally.Tally
	for _, y := range []*tally.Tally{none, {}} {
		for _, n := range []uint16{0, 1, 5, 5, 32768, 65535} {
			gets(t, y, n, 0, false)
			reports(t, y, api.Report{})
			countsAre(t, y, 0, 0)
		}
	}
}
