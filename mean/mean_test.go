package mean_test

import (
	"math"
	"math/big"
	"slices"
	"testing"

	"girandole/api"
	"girandole/mean"
)

// most is the greatest number of 32 bits.
const most = math.MaxUint32

// seen is what is looked at: so many that were lost, so many that came.
type seen struct{ lost, got uint32 }

// ends are numbers at the ends, and where fewer bits turn into others.
var ends = []uint32{
	0, 1, 2, 3, 7, 8, 9, 255, 256, 257, 32767, 32768, 65535, 65536, 65537, 131071, 131072,
	1<<24 - 1, 1 << 24, 1<<31 - 1, 1 << 31, 1<<31 + 1, most - 65536, most - 65535, most - 2, most - 1, most,
}

// draw is a run of numbers that is the same each time.
type draw uint32

func (r *draw) next() uint32 {
	*r = *r*1664525 + 1013904223
	return uint32(*r)>>16 | uint32(*r)<<16
}

// below is one from 0 to n - 1.
func (r *draw) below(n int) int { return int(r.next() % uint32(n)) }

// number is one of 32 bits: as often a small one as a great one, and one of the ends at times.
func (r *draw) number() uint32 {
	if r.below(4) == 0 {
		return ends[r.below(len(ends))]
	}
	return r.next() >> r.below(32)
}

// pair is one of them, now and then one of nothing.
func (r *draw) pair() seen {
	if r.below(10) == 0 {
		return seen{}
	}
	return seen{r.number(), r.number()}
}

// quotient is a over b, cut off, in numbers that have no end.
func quotient(a, b *big.Int) *big.Int { return new(big.Int).Quo(a, b) }

// lookAt is which part was lost, by the chapter's words, in numbers that have no end.
func lookAt(s seen) int {
	lost, got := big.NewInt(int64(s.lost)), big.NewInt(int64(s.got))
	all := new(big.Int).Add(lost, got)
	return int(quotient(new(big.Int).Mul(lost, big.NewInt(65536)), all).Int64())
}

// model is a Mean by the chapter's words: all looks so far are kept, and the value is reckoned from the first one on.
type model struct{ looks []int }

func (m *model) add(s seen) {
	if s.lost != 0 || s.got != 0 {
		m.looks = append(m.looks, lookAt(s))
	}
}

func (m *model) value() int {
	if len(m.looks) == 0 {
		return 0
	}
	v := big.NewInt(int64(m.looks[0]))
	for _, l := range m.looks[1:] {
		v.Mul(v, big.NewInt(7))
		v = quotient(v.Add(v, big.NewInt(int64(l))), big.NewInt(8))
	}
	return int(v.Int64())
}

// is asks for a value.
func is(t *testing.T, m *mean.Mean, want int) {
	t.Helper()
	if v := m.Value(); v != want {
		t.Fatalf("Value: %d, not %d", v, want)
	}
}

// adds looks once, and asks for the value behind it.
func adds(t *testing.T, m *mean.Mean, lost, got uint32, want int) {
	t.Helper()
	m.Add(lost, got)
	if v := m.Value(); v != want {
		t.Fatalf("behind Add(%d, %d): %d, not %d", lost, got, v, want)
	}
}

// looked is a Mean that looked at these.
func looked(l ...seen) *mean.Mean {
	m := mean.New()
	for _, s := range l {
		m.Add(s.lost, s.got)
	}
	return m
}

// at is a Mean of which that is the first look, of One: any from 0 to One.
func at(look int) *mean.Mean { return looked(part(look)) }

// part is what makes a look that great.
func part(look int) seen { return seen{uint32(look), uint32(api.One - look)} }

// steps asks for each value, looking at the same again and again.
func steps(t *testing.T, m *mean.Mean, s seen, want ...int) {
	t.Helper()
	for _, w := range want {
		adds(t, m, s.lost, s.got, w)
	}
}

// Examples: Add(1, 1): 32,768.
func TestExample(t *testing.T) {
	adds(t, mean.New(), 1, 1, 32768)
}

// P17.1 Value: 0 at first, however often it is asked for.
func TestValueAtFirst(t *testing.T) {
	m := mean.New()
	is(t, m, 0)
	is(t, m, 0)
	adds(t, m, 1, 1, 32768) // and asking is no look
}

// P17.1 Value: of a nil Mean 0, also behind an Add to it.
func TestNoMean(t *testing.T) {
	var none *mean.Mean
	is(t, none, 0)
	for _, lost := range ends {
		for _, got := range ends {
			adds(t, none, lost, got, 0)
		}
	}
}

// P17.1 Add: of 0 and 0 ahead of all others it is nothing: the value stays 0, and the look behind it is the first one.
func TestNothingAheadOfTheFirst(t *testing.T) {
	for _, times := range []int{1, 2, 10} {
		for _, c := range []struct {
			seen
			want int
		}{{seen{1, 1}, 32768}, {seen{1, 2}, 21845}, {seen{7, 0}, 65536}, {seen{0, 7}, 0}, {seen{most, most}, 32768}} {
			m := mean.New()
			for range times {
				adds(t, m, 0, 0, 0)
			}
			adds(t, m, c.lost, c.got, c.want)
			adds(t, m, 1, 0, (7*c.want+65536)/8)
		}
	}
}

// P17.1 Add: of 0 and 0 between others it is nothing: it does not draw the value down, and what comes behind it is what it would be without.
func TestNothingBetweenOthers(t *testing.T) {
	m := mean.New()
	adds(t, m, 5, 0, 65536)
	adds(t, m, 0, 0, 65536)
	adds(t, m, 0, 0, 65536)
	adds(t, m, 0, 3, 57344)
	adds(t, m, 0, 0, 57344)
	adds(t, m, 1, 1, 54272)
	for range 100 {
		adds(t, m, 0, 0, 54272)
	}
	adds(t, m, 0, 1, 47488)

	// Behind a first look of 0 the next one is not the first any more.
	m = mean.New()
	adds(t, m, 0, 9, 0)
	adds(t, m, 0, 0, 0)
	adds(t, m, 9, 0, 8192)
}

// P17.1 Add: a drawn run tells the same with looks at nothing strewn in as without.
func TestNothingStrewnIn(t *testing.T) {
	for seed := range draw(20) {
		r, with, without := seed, mean.New(), mean.New()
		for range 300 {
			s := seen{r.number(), r.number()}
			for range r.below(3) {
				with.Add(0, 0)
			}
			without.Add(s.lost, s.got)
			adds(t, with, s.lost, s.got, without.Value())
		}
	}
}

// P17.1 Add: the first look is the value, whatever it is: each from 0 to One.
func TestEachFirstLook(t *testing.T) {
	for look := range api.One + 1 {
		is(t, at(look), look)
	}
}

// P17.1 Add: first looks, written down ahead; they are cut off, and one of 0, by whatever way, is a look.
func TestFirstLooks(t *testing.T) {
	for _, c := range []struct {
		lost, got uint32
		want      int
	}{
		{0, 1, 0}, {0, 5, 0}, {0, 65536, 0}, {0, 1 << 31, 0}, {0, most, 0},
		{1, 0, 65536}, {5, 0, 65536}, {65536, 0, 65536}, {1 << 31, 0, 65536}, {most, 0, 65536},
		{1, 1, 32768}, {3, 3, 32768}, {32768, 32768, 32768}, {65536, 65536, 32768}, {1 << 31, 1 << 31, 32768}, {most, most, 32768},
		{1, 2, 21845}, {2, 1, 43690}, {1, 3, 16384}, {3, 1, 49152}, {1, 6, 9362}, {6, 1, 56173}, {5, 6, 29789}, {6, 5, 35746},
		{1, 65535, 1}, {1, 65536, 0}, {2, 65536, 1}, {65535, 1, 65535}, {65536, 1, 65535}, {65536, 2, 65534}, {131071, 1, 65535},
		{1, most, 0}, {65535, most, 0}, {65536, most, 0}, {65537, most, 1}, {131076, most, 1}, {131077, most, 2},
		{most, 1, 65535}, {most, 65535, 65535}, {most, 65537, 65535}, {most, 65538, 65534},
		{most, most - 1, 32768}, {most - 1, most, 32767}, {1 << 31, most, 21845}, {most, 1 << 31, 43690},
		{1 << 31, 1<<31 - 1, 32768}, {1<<31 - 1, 1 << 31, 32767}, {1 << 31, 1<<31 + 1, 32767},
	} {
		adds(t, mean.New(), c.lost, c.got, c.want)
	}
}

// P17.1 Add: first looks at the ends and where 32 bits hold neither what is multiplied nor what is added, by numbers that have no end.
func TestGreatFirstLooks(t *testing.T) {
	check := func(s seen) {
		t.Helper()
		if s != (seen{}) {
			adds(t, mean.New(), s.lost, s.got, lookAt(s))
		}
	}
	for _, lost := range ends {
		for _, got := range ends {
			check(seen{lost, got})
		}
	}
	r := draw(1)
	for range 50000 {
		check(r.pair())
		check(seen{most - r.next()>>16, r.next()})
		check(seen{r.next(), most - r.next()>>16})
	}
}

// P17.1 Add: the first look stands for itself alone: the second one draws the value by an eighth, no more.
func TestTheSecondLook(t *testing.T) {
	for _, c := range []struct {
		first, second seen
		want          int
	}{
		{seen{0, 5}, seen{5, 0}, 8192}, {seen{5, 0}, seen{0, 5}, 57344},
		{seen{0, 5}, seen{0, 5}, 0}, {seen{5, 0}, seen{5, 0}, 65536},
		{seen{1, 1}, seen{0, 1}, 28672}, {seen{1, 1}, seen{1, 0}, 36864},
		{seen{1, 2}, seen{2, 1}, 24575}, {seen{2, 1}, seen{1, 2}, 40959},
		{seen{0, 1}, seen{1, 65535}, 0}, {seen{0, 1}, seen{7, 65529}, 0}, {seen{0, 1}, seen{8, 65528}, 1}, {seen{0, 1}, seen{15, 65521}, 1}, {seen{0, 1}, seen{16, 65520}, 2},
		{seen{1, 65535}, seen{0, 1}, 0}, {seen{2, 65534}, seen{0, 1}, 1}, {seen{8, 65528}, seen{0, 1}, 7}, {seen{9, 65527}, seen{0, 1}, 7}, {seen{10, 65526}, seen{0, 1}, 8},
		{seen{1, 0}, seen{65535, 1}, 65535}, {seen{65535, 1}, seen{1, 0}, 65535},
		{seen{0, most}, seen{most, 0}, 8192}, {seen{most, 0}, seen{0, most}, 57344},
		{seen{most, most}, seen{most, 0}, 36864}, {seen{most, most}, seen{0, most}, 28672}, {seen{1, most}, seen{most, most}, 4096},
	} {
		adds(t, looked(c.first), c.second.lost, c.second.got, c.want)
	}
}

// P17.1 Add: how many were looked at has no weight: a look at few counts as one at many.
func TestManyCountAsFew(t *testing.T) {
	for _, c := range []seen{{1, 1}, {10, 10}, {1 << 20, 1 << 20}, {most, most}} {
		adds(t, looked(seen{0, 1}), c.lost, c.got, 4096)
		adds(t, looked(seen{0, most}), c.lost, c.got, 4096)
		adds(t, looked(seen{most, 0}), c.lost, c.got, 61440)
		adds(t, looked(c), 1, 0, 36864)
		adds(t, looked(c), 0, most, 28672)
	}
}

// P17.1 Add: from above, step by step, each cut off, down to 0.
func TestDownStepByStep(t *testing.T) {
	m := mean.New()
	adds(t, m, 1, 0, 65536)
	steps(t, m, seen{0, 1}, 57344, 50176, 43904, 38416, 33614, 29412, 25735, 22518, 19703, 17240, 15085, 13199, 11549, 10105, 8841, 7735)
	steps(t, m, seen{0, most}, 6768, 5922, 5181, 4533, 3966, 3470, 3036, 2656, 2324, 2033, 1778, 1555, 1360, 1190, 1041, 910)
	steps(t, m, seen{0, 7}, 796, 696, 609, 532, 465, 406, 355, 310, 271, 237, 207, 181, 158, 138, 120, 105, 91, 79, 69, 60, 52, 45)
	steps(t, m, seen{1, most}, 39, 34, 29, 25, 21, 18, 15, 13, 11, 9, 7, 6, 5, 4, 3, 2, 1, 0, 0, 0)
}

// P17.1 Add: from below, step by step, each cut off, as far up as that leads.
func TestUpStepByStep(t *testing.T) {
	m := mean.New()
	adds(t, m, 0, 1, 0)
	steps(t, m, seen{1, 0}, 8192, 15360, 21632, 27120, 31922, 36123, 39799, 43016, 45831, 48294, 50449, 52334, 53984, 55428, 56691, 57796)
	steps(t, m, seen{most, 0}, 58763, 59609, 60349, 60997, 61564, 62060, 62494, 62874, 63206, 63497, 63751, 63974, 64169, 64339, 64488, 64619)
	steps(t, m, seen{9, 0}, 64733, 64833, 64920, 64997, 65064, 65123, 65174, 65219, 65258, 65292, 65322, 65348, 65371, 65391, 65409, 65424)
	steps(t, m, seen{1, 0}, 65438, 65450, 65460, 65469, 65477, 65484, 65490, 65495, 65500, 65504, 65508, 65511, 65514, 65516, 65518, 65520)
	steps(t, m, seen{1, 0}, 65522, 65523, 65524, 65525, 65526, 65527, 65528, 65529, 65529, 65529)
}

// P17.1 Add: to a look in the midst, step by step, from above and from below.
func TestToTheMidstStepByStep(t *testing.T) {
	m := mean.New()
	adds(t, m, 1, 0, 65536)
	steps(t, m, seen{1, 2}, 60074, 55295, 51113, 47454, 44252, 41451, 39000, 36855, 34978, 33336)
	m = mean.New()
	adds(t, m, 0, 1, 0)
	steps(t, m, seen{1, 2}, 2730, 5119, 7209, 9038, 10638, 12038, 13263, 14335, 15273, 16094)
}

// P17.1 Add: each value and each of some looks: 7 times the value and the look, over 8, cut off.
func TestEachValueAndALaterLook(t *testing.T) {
	for value := 0; value <= api.One; value += 7 {
		for _, look := range []int{0, 1, 7, 8, 9, 21845, 32767, 32768, 65528, 65529, 65535, 65536} {
			s := part(look)
			adds(t, at(value), s.lost, s.got, (7*value+look)>>3)
		}
	}
}

// P17.1 Add: the same look again and again is the value: each from 0 to One.
func TestTheSameLookAgain(t *testing.T) {
	for look := range api.One + 1 {
		m, s := at(look), part(look)
		for range 3 {
			adds(t, m, s.lost, s.got, look)
		}
	}
	for _, c := range []struct {
		seen
		want int
	}{{seen{1, 2}, 21845}, {seen{most, most}, 32768}, {seen{most, 0}, 65536}, {seen{0, most}, 0}, {seen{most, 1}, 65535}, {seen{1, most}, 0}} {
		m := mean.New()
		for range 1000 {
			adds(t, m, c.lost, c.got, c.want)
		}
	}
}

// P17.1: drawn runs against the chapter's words in numbers that have no end, from 0 to One all along.
func TestDrawnRuns(t *testing.T) {
	for seed := range draw(60) {
		r, m, w := seed, mean.New(), &model{}
		for i := range 120 {
			s := r.pair()
			w.add(s)
			adds(t, m, s.lost, s.got, w.value())
			if v := m.Value(); v < 0 || v > api.One {
				t.Fatalf("seed %d, step %d: %d", seed, i, v)
			}
		}
	}
}

// P17.1 Value: from 0 to One at the ends of it, for long, to and fro.
func TestFromNothingToOne(t *testing.T) {
	m := mean.New()
	for i := range 10000 {
		if i/100%2 == 0 {
			m.Add(most, 0)
		} else {
			m.Add(0, most)
		}
		if v := m.Value(); v < 0 || v > api.One {
			t.Fatalf("step %d: %d", i, v)
		}
	}
}

// 'What follows': in drawn runs it lies between the least and the greatest of what was looked at.
func TestBetweenTheLeastAndTheGreatest(t *testing.T) {
	for seed := range draw(300) {
		r, m := seed, mean.New()
		low := r.below(api.One + 1)
		wide := 1 + r.below(api.One+1-low)
		if seed%3 == 0 {
			wide = 1 + r.below(min(wide, 9)) // near to one another, where what is cut off weighs most
		}
		var looks []int
		for range 200 {
			l := low + r.below(wide)
			s := part(l)
			looks = append(looks, l)
			m.Add(s.lost, s.got)
			if v := m.Value(); v < slices.Min(looks) || v > slices.Max(looks) {
				t.Fatalf("seed %d: %d, looks %v", seed, v, looks)
			}
		}
	}
}

// 'What follows': what is looked at for long comes near: from above it is reached, from below less than 8 are left; and it comes nearer at each step until then.
func TestComesNear(t *testing.T) {
	ways := []int{0, 1, 7, 8, 9, 100, 8192, 21845, 32767, 32768, 43690, 60000, 65528, 65535, 65536}
	for _, from := range ways {
		for _, to := range ways {
			m, s := at(from), part(to)
			last := from
			for range 120 {
				m.Add(s.lost, s.got)
				v := m.Value()
				if last > to && (v >= last || v < to) || last <= to && (v < last || v > to || v == last && to-v >= 8) {
					t.Fatalf("from %d to %d: %d behind %d", from, to, v, last)
				}
				last = v
			}
			if last > to || to-last >= 8 {
				t.Errorf("from %d to %d: %d", from, to, last)
			}
		}
	}
}

// 'What follows': what was looked at long ago is worn off: whatever it was, it makes no odds greater than what is cut off.
func TestWearsOff(t *testing.T) {
	high, low := at(api.One), at(0)
	for range 120 {
		high.Add(1, 9)
		low.Add(1, 9)
	}
	is(t, high, 6553)
	is(t, low, 6546)
}

// R4: asking changes nothing, and the same looks tell the same each time.
func TestTheSameLooksTellTheSame(t *testing.T) {
	asked, left, r := mean.New(), mean.New(), draw(3)
	var l []seen
	for range 2000 {
		s := r.pair()
		l = append(l, s)
		left.Add(s.lost, s.got)
		asked.Add(s.lost, s.got)
		first := asked.Value()
		for range r.below(4) {
			is(t, asked, first)
		}
	}
	is(t, asked, left.Value())
	is(t, looked(l...), left.Value())
}

// R4: two Means side by side don't hang on each other, nor on one that is nil.
func TestTwoSideBySide(t *testing.T) {
	one, other := mean.New(), mean.New()
	var none *mean.Mean
	adds(t, one, 5, 0, 65536)
	is(t, other, 0)
	adds(t, other, 1, 1, 32768)
	is(t, one, 65536)
	adds(t, one, 0, 1, 57344)
	none.Add(1, 0)
	is(t, other, 32768)
	adds(t, other, 0, 0, 32768)
	adds(t, other, 1, 0, 36864)
	adds(t, one, 0, 1, 50176)
	is(t, none, 0)
	is(t, mean.New(), 0)

	r, a, b, wa, wb := draw(9), mean.New(), mean.New(), &model{}, &model{}
	for range 200 {
		m, w := a, wa
		if r.below(2) == 0 {
			m, w = b, wb
		}
		s := r.pair()
		m.Add(s.lost, s.got)
		w.add(s)
		is(t, a, wa.value())
		is(t, b, wb.value())
	}
}
