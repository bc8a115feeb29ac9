package jitter_test

import (
	"math"
	"testing"

	"girandole/jitter"
)

// round is how many ways there are until they come again, half of it the greatest distance of two.
const (
	round = 65536
	half  = 32768
)

// packet is one of that stamp that comes now.
type packet struct {
	stamp uint16
	now   int64
}

// ends are numbers of 16 bits at the ends, and where fewer bits turn into others.
var ends = []int{
	0, 1, 2, 7, 8, 9, 15, 16, 17, 100, 255, 256, 257, 4095, 4096, 4097, 12345,
	32759, 32760, 32766, 32767, 32768, 32769, 32776, 40000, 54321, 65279, 65280, 65520, 65534, 65535,
}

// far are times at the ends, and where fewer bits turn into others, below 0 too.
var far = []int64{
	math.MinInt64, math.MinInt64 + 1, -1 << 48, -1<<32 - 1, -1 << 32, -1 << 31, -65537, -65536, -65535, -32769, -32768, -32767, -2, -1,
	0, 1, 2, 32767, 32768, 65534, 65535, 65536, 65537, 1<<31 - 1, 1 << 31, 1<<32 - 1, 1 << 32, 1<<32 + 1, 1 << 48, math.MaxInt64 - 1, math.MaxInt64,
}

// draw is a run of numbers that is the same each time.
type draw uint32

func (r *draw) next() uint32 {
	*r = *r*1664525 + 1013904223
	return uint32(*r)>>16 | uint32(*r)<<16
}

// below is one from 0 to n - 1.
func (r *draw) below(n int) int { return int(r.next() % uint32(n)) }

// now is a time: any, a near one, or one of the ends.
func (r *draw) now() int64 {
	switch r.below(4) {
	case 0:
		return far[r.below(len(far))]
	case 1:
		return int64(r.below(4*round)) - 2*round
	}
	return int64(uint64(r.next())<<32|uint64(r.next())) >> r.below(64)
}

// stamp is any, or one of the ends.
func (r *draw) stamp() uint16 {
	if r.below(4) == 0 {
		return uint16(ends[r.below(len(ends))])
	}
	return uint16(r.next())
}

// on is a packet of that way, at some time.
func (r *draw) on(way int) packet {
	now := r.now()
	return packet{stamp: uint16(now - int64(way)), now: now}
}

// packets are n of them: any, or near to one another.
func (r *draw) packets(n int) []packet {
	var l []packet
	way, wide := r.below(round), 1+r.below(round)>>r.below(16)
	for range n {
		if r.below(8) == 0 {
			l = append(l, packet{r.stamp(), r.now()})
		} else {
			l = append(l, r.on(way+r.below(wide)))
		}
	}
	return l
}

// way is now's last 16 bits less stamp, by the chapter's words, without numbers that wrap.
func (p packet) way() int {
	last := p.now % round
	if last < 0 {
		last += round
	}
	return (int(last) + round - int(p.stamp)) % round
}

// apart is serial's distance of two ways without its sign, by that chapter's words: to the one behind, or to the one ahead.
func apart(a, b int) int {
	d := (b + round - a) % round
	if d > half {
		return round - d
	}
	return d
}

// step is the sum and d, less (the sum and 8) over 16, cut off: counted down, not divided.
func step(sum, d int) int {
	off := 0
	for left := sum + 8; left >= 16; left -= 16 {
		off++
	}
	return sum + d - off
}

// reckoned are the sums behind each of these packets.
func reckoned(l []packet) []int {
	var sums []int
	for i, p := range l {
		if i == 0 {
			sums = append(sums, 0)
		} else {
			sums = append(sums, step(sums[i-1], apart(l[i-1].way(), p.way())))
		}
	}
	return sums
}

// is asks for a value.
func is(t *testing.T, j *jitter.Jitter, want int) {
	t.Helper()
	if v := j.Value(); int(v) != want {
		t.Fatalf("Value: %d, not %d", v, want)
	}
}

// adds hands in a packet, and asks for the value behind it.
func adds(t *testing.T, j *jitter.Jitter, stamp uint16, now int64, want int) {
	t.Helper()
	j.Add(stamp, now)
	if v := j.Value(); int(v) != want {
		t.Fatalf("behind Add(%d, %d): %d, not %d", stamp, now, v, want)
	}
}

// after is a Jitter to which these came.
func after(l []packet) *jitter.Jitter {
	j := jitter.New()
	for _, p := range l {
		j.Add(p.stamp, p.now)
	}
	return j
}

// walk are packets whose ways have these distances, up and down, with stamps and times that go round.
func walk(distances ...int) []packet {
	r, way := draw(77), 65530
	l := []packet{r.on(way)}
	for i, d := range distances {
		if i%3 == 2 {
			d = -d
		}
		way = (way + d + round) % round
		l = append(l, r.on(way))
	}
	return l
}

// sumIs asks what no value tells alone: whether this is the sum behind these distances, by what it comes to behind one more.
func sumIs(t *testing.T, want int, distances ...int) {
	t.Helper()
	is(t, after(walk(distances...)), want/16)
	for more := range 34 {
		l := append(append([]int{}, distances...), more)
		if v := after(walk(l...)).Value(); int(v) != step(want, more)/16 {
			t.Fatalf("distances %v: %d, not %d: the sum ahead of the last is not %d", l, v, step(want, more)/16, want)
		}
	}
}

// wayIs asks whether a packet's way is this one: it is 15 and 16 away from those around it, on both sides, ahead and behind.
func wayIs(t *testing.T, p packet, want int) {
	t.Helper()
	for _, c := range []struct{ from, value int }{{0, 0}, {1, 0}, {15, 0}, {16, 1}, {31, 1}, {32, 2}, {32751, 2046}, {32752, 2047}, {32767, 2047}, {32768, 2048}} {
		for _, from := range []int{c.from, -c.from} {
			other := packet{now: int64((want + from + round) % round)}
			if v := after([]packet{other, p}).Value(); int(v) != c.value {
				t.Fatalf("%v, behind way %d: %d, not %d: its way is not %d", p, other.now, v, c.value, want)
			}
			if v := after([]packet{p, other}).Value(); int(v) != c.value {
				t.Fatalf("%v, ahead of way %d: %d, not %d: its way is not %d", p, other.now, v, c.value, want)
			}
		}
	}
}

// Examples: Add(0, 5), Add(1, 6): 0.
func TestExample(t *testing.T) {
	j := jitter.New()
	adds(t, j, 0, 5, 0)
	adds(t, j, 1, 6, 0)
}

// P19.1 Value: 0 at first, however often it is asked for; and asking is no packet.
func TestValueAtFirst(t *testing.T) {
	j := jitter.New()
	is(t, j, 0)
	is(t, j, 0)
	adds(t, j, 0, 160, 0)
	adds(t, j, 0, 320, 10)
}

// P19.1 Value: of a nil Jitter 0, also behind an Add to it.
func TestNoJitter(t *testing.T) {
	var none *jitter.Jitter
	is(t, none, 0)
	for _, now := range far {
		adds(t, none, 1, now, 0)
		adds(t, none, 32769, now, 0)
		adds(t, none, 0, now, 0)
	}
}

// R1: one that New did not make does not panic either.
func TestNotMade(t *testing.T) {
	var j jitter.Jitter
	for _, now := range far {
		for _, n := range ends {
			j.Value()
			j.Add(uint16(n), now)
		}
	}
}

// P19.1 Add: the first packet alone leaves 0, whatever its stamp and its time are.
func TestTheFirstAlone(t *testing.T) {
	for stamp := range round {
		adds(t, jitter.New(), uint16(stamp), 0, 0)
		adds(t, jitter.New(), 0, int64(stamp), 0)
		adds(t, jitter.New(), 5, int64(stamp)-half, 0)
	}
	for _, stamp := range ends {
		for _, now := range far {
			adds(t, jitter.New(), uint16(stamp), now, 0)
		}
	}
}

// P19.1 Add: the first one leaves its way, whatever it is: the second one's distance is from that, not from 0, and is the whole sum.
func TestTheSecond(t *testing.T) {
	for _, c := range []struct {
		first, second packet
		want          int
	}{
		{packet{0, 0}, packet{0, 16}, 1}, {packet{0, 16}, packet{0, 0}, 1}, {packet{0, 500}, packet{1, 501}, 0}, {packet{0, 500}, packet{0, 515}, 0},
		{packet{0, 500}, packet{0, 516}, 1}, {packet{3, 1000}, packet{4, 1641}, 40}, {packet{0, 30000}, packet{0, 0}, 1875}, {packet{30000, 0}, packet{0, 0}, 1875},
		{packet{0, 0}, packet{16, 0}, 1}, {packet{16, 0}, packet{0, 0}, 1}, {packet{0, 0}, packet{0, 32768}, 2048}, {packet{40000, 0}, packet{0, 0}, 1596},
	} {
		j := jitter.New()
		adds(t, j, c.first.stamp, c.first.now, 0)
		adds(t, j, c.second.stamp, c.second.now, c.want)
	}
	for way := range round {
		j := after([]packet{{0, int64(way)}})
		adds(t, j, uint16(way), int64(way+way), 0)
		adds(t, j, uint16(-way), 4096, 256)
	}
}

// P19.1 Add: its way: now's last 16 bits less stamp, going round; ways written down ahead.
func TestKnownWays(t *testing.T) {
	for _, c := range []struct {
		stamp uint16
		now   int64
		way   int
	}{
		{0, 0, 0}, {0, 5, 5}, {1, 6, 5}, {1000, 1250, 250}, {250, 65535, 65285}, {65535, 65535, 0}, {0, 65535, 65535}, {0, 32768, 32768},
		// a stamp greater than now's last 16 bits
		{1, 0, 65535}, {5, 3, 65534}, {65535, 0, 1}, {65535, 65534, 65535}, {40000, 10, 25546}, {32768, 0, 32768}, {65530, 4, 10},
		// a now that has more bits than 16
		{0, 65536, 0}, {0, 65537, 1}, {1, 65536, 65535}, {65535, 65536, 1}, {65535, 131071, 0}, {65530, 65540, 10}, {65526, 131082, 20}, {34464, 100000, 0},
		{0, 1 << 31, 0}, {7, 1<<31 - 1, 65528}, {0, 1<<32 - 1, 65535}, {2, 1<<32 + 7, 5}, {1, 1<<48 + 40000, 39999}, {65535, 1<<48 + 40000, 40001},
		// a now of fewer than 0
		{0, -1, 65535}, {1, -1, 65534}, {65535, -1, 0}, {0, -2, 65534}, {65535, -2, 65535}, {0, -5, 65531}, {0, -32767, 32769}, {0, -32768, 32768}, {0, -32769, 32767},
		{0, -65535, 1}, {0, -65536, 0}, {1, -65536, 65535}, {0, -65537, 65535}, {1000, -100000, 30072}, {0, -1 << 31, 0}, {0, -1<<32 - 1, 65535},
		// both ends of 64 bits
		{0, math.MinInt64, 0}, {1, math.MinInt64, 65535}, {65535, math.MinInt64, 1}, {0, math.MinInt64 + 1, 1}, {0, math.MinInt64 + 65535, 65535},
		{0, math.MaxInt64, 65535}, {65535, math.MaxInt64, 0}, {1, math.MaxInt64, 65534}, {0, math.MaxInt64 - 1, 65534}, {0, math.MaxInt64 - 65535, 0},
	} {
		wayIs(t, packet{c.stamp, c.now}, c.way)
	}
}

// P19.1 Add: each stamp, and each of now's last 16 bits.
func TestEachStampAndTime(t *testing.T) {
	for n := range round {
		wayIs(t, packet{uint16(n), 0}, (round-n)%round)
		wayIs(t, packet{uint16(n), 65535}, 65535-n)
		wayIs(t, packet{0, int64(n)}, n)
		wayIs(t, packet{65535, int64(n) + round}, (n+1)%round)
		wayIs(t, packet{1, int64(n) - round}, (n+round-1)%round)
	}
}

// P19.1 Add: stamps and times at the ends, by the chapter's words; and the bits of now above the last 16 tell nothing.
func TestWaysAtTheEnds(t *testing.T) {
	for _, stamp := range ends {
		for _, now := range far {
			p := packet{uint16(stamp), now}
			wayIs(t, p, p.way())
		}
		for bits := 16; bits < 64; bits++ {
			for _, last := range ends {
				wayIs(t, packet{uint16(stamp), 1<<bits | int64(last)}, (last+round-stamp)%round)
			}
		}
	}
}

// P19.1 Add: the distance without its sign: from a smaller way to a greater one and back, by the shorter way round; distances written down ahead.
func TestKnownDistances(t *testing.T) {
	for _, c := range []struct{ a, b, d int }{
		{0, 0, 0}, {0, 1, 1}, {5, 9, 4}, {1000, 2000, 1000}, {20000, 52767, 32767}, {100, 30000, 29900},
		{65535, 0, 1}, {65530, 10, 16}, {60000, 1000, 6536}, {40000, 100, 25636}, {50000, 10000, 25536}, {65535, 15, 16}, {65535, 14, 15},
		{0, 32767, 32767}, {0, 32768, 32768}, {0, 32769, 32767}, {0, 65535, 1}, {0, 65521, 15}, {0, 65520, 16},
		{1, 32768, 32767}, {1, 32769, 32768}, {1, 32770, 32767}, {12345, 45112, 32767}, {12345, 45113, 32768}, {12345, 45114, 32767},
		{32767, 65534, 32767}, {32767, 65535, 32768}, {32768, 65535, 32767}, {32769, 65535, 32766}, {32768, 32768, 0}, {65535, 65535, 0},
		{65535, 32766, 32767}, {65535, 32767, 32768}, {65535, 32768, 32767},
	} {
		for _, l := range [][]packet{{{0, int64(c.a)}, {0, int64(c.b)}}, {{0, int64(c.b)}, {0, int64(c.a)}}} {
			is(t, after(l), c.d/16)
			for more := range 17 { // what the value does not tell of the sum
				with := append(append([]packet{}, l...), packet{0, l[1].now + int64(more)})
				if v := after(with).Value(); int(v) != step(c.d, more)/16 {
					t.Fatalf("from %d to %d, and %d: %d, not %d", l[0].now, l[1].now, more, v, step(c.d, more)/16)
				}
			}
		}
	}
}

// P19.1 Add: each distance is the sum behind the second packet, up and down, from some ways.
func TestEachDistance(t *testing.T) {
	for d := range half + 1 {
		for _, way := range []int{0, 1, 12345, 32767, 32768, 65535} {
			up, down := int64((way+d)%round), int64((way+round-d)%round)
			is(t, after([]packet{{0, int64(way)}, {0, up}}), d/16)
			is(t, after([]packet{{0, int64(way)}, {0, down}}), d/16)
			back := after([]packet{{0, int64(way)}, {0, up}, {0, int64(way)}}) // and the same one again on the way back
			is(t, back, step(d, d)/16)
		}
	}
}

// P19.1 Add: the distance is from the last packet's way, not from the first one's, the least or the greatest.
func TestFromTheLastWay(t *testing.T) {
	j := jitter.New()
	for _, c := range []struct{ way, want int }{
		{100, 0}, {1700, 100}, {1700, 93}, {100, 187}, {1700, 276}, {3300, 358}, {4900, 436}, {0, 715}, {0, 670}, {0, 628},
	} {
		adds(t, j, 0, int64(c.way), c.want)
	}
}

// P19.1 Add: sums step by step, written down ahead: the sum and d, less (the sum and 8) over 16, cut off.
func TestKnownSums(t *testing.T) {
	for _, c := range []struct{ distances, sums []int }{
		{[]int{40, 40, 0, 0}, []int{40, 77, 72, 67}},
		{[]int{16, 0, 0, 0, 0, 0, 0, 0, 0, 0, 0, 0}, []int{16, 15, 14, 13, 12, 11, 10, 9, 8, 7, 7, 7}},
		{[]int{24, 0, 0}, []int{24, 22, 21}},
		{[]int{23, 0, 0}, []int{23, 22, 21}},
		{[]int{1, 1, 1, 1, 1, 1, 1, 1, 1, 1, 1}, []int{1, 2, 3, 4, 5, 6, 7, 8, 8, 8, 8}},
		{[]int{2, 2, 2, 2, 2, 2, 2, 2, 2, 2, 2, 2, 2, 2, 2, 2, 2, 2, 2}, []int{2, 4, 6, 8, 9, 10, 11, 12, 13, 14, 15, 16, 17, 18, 19, 20, 21, 22, 23}},
		{[]int{32768, 0, 32768, 1}, []int{32768, 30720, 61568, 57721}},
		{[]int{160, 160, 160, 160, 160}, []int{160, 310, 451, 583, 707}},
		{[]int{7, 0, 1, 0, 9}, []int{7, 7, 8, 7, 16}},
	} {
		for i, want := range c.sums {
			sumIs(t, want, c.distances[:i+1]...)
		}
	}
}

// P19.1 Add: where (the sum and 8) over 16 changes: sums of 7 and 8, of 23 and 24, and so on; what is taken off goes by the sum from ahead of the step.
func TestWhereWhatIsTakenOffChanges(t *testing.T) {
	for _, c := range []struct{ sum, d, want int }{
		{0, 0, 0}, {1, 0, 1}, {6, 0, 6}, {7, 0, 7}, {8, 0, 7}, {9, 0, 8}, {22, 0, 21}, {23, 0, 22}, {24, 0, 22}, {25, 0, 23}, {39, 0, 37}, {40, 0, 37},
		{0, 7, 7}, {0, 8, 8}, {0, 9, 9}, {0, 16, 16}, {0, 24, 24}, {7, 1, 8}, {7, 9, 16}, {7, 32768, 32775}, {8, 1, 8}, {8, 32768, 32775},
		{23, 1, 23}, {23, 100, 122}, {24, 1, 23}, {24, 100, 122}, {32759, 0, 30712}, {32760, 0, 30712}, {32767, 0, 30719}, {32768, 0, 30720}, {32760, 32768, 63480},
	} {
		sumIs(t, c.want, c.sum, c.d)
	}
	for sum := range half + 1 {
		l := walk(sum, 0, 0)
		is(t, after(l[:3]), step(sum, 0)/16)
		is(t, after(l), step(step(sum, 0), 0)/16)
	}
}

// P19.1 Value: the sum over 16, cut off.
func TestTheSumOver16(t *testing.T) {
	for _, c := range []struct{ sum, want int }{
		{0, 0}, {1, 0}, {7, 0}, {8, 0}, {14, 0}, {15, 0}, {16, 1}, {17, 1}, {24, 1}, {30, 1}, {31, 1}, {32, 2}, {33, 2}, {47, 2}, {48, 3}, {255, 15}, {256, 16},
		{4095, 255}, {4096, 256}, {32751, 2046}, {32752, 2047}, {32767, 2047}, {32768, 2048},
	} {
		is(t, after(walk(c.sum)), c.want)
	}
}

// P19.1: ways half a round apart again and again: the greatest sums, step by step, up to 524,280; and down again.
func TestTheGreatestSums(t *testing.T) {
	known := []int{0, 2048, 3968, 5768, 7455, 9037, 10520, 11911, 13214}
	j, sum := jitter.New(), 0
	for i := range 2000 {
		if i > 0 {
			sum = step(sum, half)
		}
		if i < len(known) && sum/16 != known[i] {
			t.Fatalf("step %d: the sum %d", i, sum)
		}
		adds(t, j, uint16(i), int64(i+i%2*half), sum/16)
	}
	if sum != 524280 {
		t.Fatalf("the greatest sum: %d", sum)
	}
	for i := range 100000 {
		adds(t, j, 7, int64(7+i%2*half), 32767)
	}
	for i := range 1000 {
		sum = step(sum, 0)
		adds(t, j, uint16(i), int64(i+half), sum/16)
	}
	is(t, j, 0)
}

// 'What follows': what comes evenly has none, however long its way is, also where stamps and times go round.
func TestEvenlyHasNone(t *testing.T) {
	for _, way := range ends {
		for _, every := range []int64{0, 1, 20, 40, 255, 4096, 32767, 32768, 32769, 65535, 65536, 65537, 100000, -1, -33} {
			for _, from := range []int64{-100000, 0, 65500, 1 << 40, math.MinInt64, math.MaxInt64} {
				j, now := jitter.New(), from
				for range 50 {
					adds(t, j, uint16(now-int64(way)), now, 0)
					now += every
				}
			}
		}
	}
}

// 'What follows': what comes evenly from now on has none in the end, and what comes unevenly has some again.
func TestEvenlyAgain(t *testing.T) {
	for seed := range draw(50) {
		r := seed
		l := r.packets(50)
		j, way := after(l), l[49].way()
		for last := int(j.Value()); last > 0; {
			for range 16 {
				p := r.on(way)
				j.Add(p.stamp, p.now)
			}
			if v := int(j.Value()); v >= last {
				t.Fatalf("seed %d: %d behind %d", seed, v, last)
			} else {
				last = v
			}
		}
		p := r.on(way)
		adds(t, j, p.stamp, p.now, 0)
		p = r.on(way + 400)
		j.Add(p.stamp, p.now)
		if v := j.Value(); v != 25 {
			t.Errorf("seed %d: %d, not 25", seed, v)
		}
	}
}

// P19.1: one distance again and again: the value comes up to it, and no further: each step takes off the sixteenth, rounded.
func TestTheSameDistanceAgain(t *testing.T) {
	for _, d := range []int{0, 1, 2, 7, 8, 15, 16, 17, 100, 255, 4096, 12345, 32767, 32768} {
		j, sum := jitter.New(), 0
		j.Add(0, 0)
		for i := range 400 {
			sum = step(sum, d)
			adds(t, j, 0, int64((i+1)%2*d), sum/16)
		}
		is(t, j, max(d-1, 0))
	}
}

// P19.1: drawn runs against another reckoning of the chapter's words.
func TestDrawnRuns(t *testing.T) {
	for seed := range draw(500) {
		r, j := seed, jitter.New()
		l := r.packets(200)
		for i, sum := range reckoned(l) {
			adds(t, j, l[i].stamp, l[i].now, sum/16)
		}
	}
}

// P19.1: in drawn runs the value is never more than the greatest distance so far.
func TestNeverMoreThanTheGreatest(t *testing.T) {
	for seed := range draw(500) {
		r, j, most := seed, jitter.New(), 0
		way, wide := r.below(round), 1+r.below(round)>>r.below(17)
		if seed%3 == 0 {
			wide = 1 + r.below(20) // what is cut off weighs most where all are near
		}
		last := -1
		for range 300 {
			p := r.on(way + r.below(wide))
			j.Add(p.stamp, p.now)
			if last >= 0 {
				most = max(most, apart(last, p.way()))
			}
			last = p.way()
			if v := int(j.Value()); v > most {
				t.Fatalf("seed %d: %d, the greatest distance %d", seed, v, most)
			}
		}
	}
}

// R4: asking changes nothing, and the same packets tell the same each time.
func TestTheSamePacketsTellTheSame(t *testing.T) {
	r := draw(3)
	asked, l := jitter.New(), r.packets(2000)
	for _, p := range l {
		asked.Add(p.stamp, p.now)
		first := int(asked.Value())
		for range r.below(4) {
			is(t, asked, first)
		}
	}
	is(t, asked, int(after(l).Value()))
	is(t, after(l), int(after(l).Value()))
}

// R4: two Jitters side by side don't hang on each other, nor on one that is nil.
func TestTwoSideBySide(t *testing.T) {
	one, other := jitter.New(), jitter.New()
	var none *jitter.Jitter
	adds(t, one, 0, 0, 0)
	adds(t, one, 0, 3200, 200)
	is(t, other, 0)
	adds(t, other, 0, 40000, 0) // it is the first one here
	is(t, one, 200)
	adds(t, other, 1, 40033, 2)
	adds(t, one, 1, 3201, 187)
	none.Add(0, 9000)
	adds(t, other, 2, 40034, 1)
	is(t, one, 187)
	is(t, none, 0)
	is(t, jitter.New(), 0)

	r, both := draw(9), []*jitter.Jitter{jitter.New(), jitter.New()}
	seen := make([][]packet, 2)
	for range 300 {
		i, p := r.below(2), packet{r.stamp(), r.now()}
		both[i].Add(p.stamp, p.now)
		seen[i] = append(seen[i], p)
		for k, l := range seen {
			if len(l) > 0 {
				is(t, both[k], reckoned(l)[len(l)-1]/16)
			}
		}
	}
}
