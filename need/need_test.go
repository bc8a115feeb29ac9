package need_test

import (
	"math"
	"testing"

	"girandole/api"
	"girandole/need"
)

// call is what is handed in.
type call struct{ k, loss, burst int }

// told is a call, and what it answers.
type told struct{ k, loss, burst, want int }

// none are numbers that are 0 or below.
var none = []int{math.MinInt, math.MinInt + 1, math.MinInt32 - 1, math.MinInt32, -api.One - 1, -api.One, -32768, -32, -17, -16, -2, -1, 0}

// some are numbers above 0: those near the limits, and where fewer bits turn into others.
var some = []int{
	1, 2, 3, 15, 16, 17, 31, 32, 33, 63, 64, 65, 1008, 1009, 1023, 1024, 1025, 32767, 32768, 32769, 65534, 65535, 65536, 65537,
	math.MaxInt32, math.MaxInt32 + 1, math.MaxUint32, math.MaxUint32 + 1, math.MaxUint32 + 2, 1<<48 + 5, math.MaxInt - 15, math.MaxInt - 14, math.MaxInt - 1, math.MaxInt,
}

// whole are losses of One or above.
var whole = []int{api.One, api.One + 1, 2*api.One - 1, 2 * api.One, 1<<32 + 1, math.MaxInt - 1, math.MaxInt}

// all are these one behind the other.
func all(lists ...[]int) []int {
	var l []int
	for _, x := range lists {
		l = append(l, x...)
	}
	return l
}

// draw is a run of numbers that is the same each time.
type draw uint32

func (r *draw) next() uint32 {
	*r = *r*1664525 + 1013904223
	return uint32(*r)>>16 | uint32(*r)<<16
}

// below is one from 0 to n - 1.
func (r *draw) below(n int) int { return int(r.next() % uint32(n)) }

// any is any int: a great one, a small one, or one at the ends.
func (r *draw) any() int {
	ends := all(none, some)
	if r.below(4) == 0 {
		return ends[r.below(len(ends))]
	}
	return int(uint64(r.next())<<32|uint64(r.next())) >> r.below(64)
}

// within is a call none of whose ints is beyond what it may be.
func (r *draw) within() call {
	return call{1 + r.below(api.MaxSource), 1 + r.below(api.One-1)>>r.below(16), r.below(api.MaxRepair*16) >> r.below(10)}
}

// lossCounted is k times loss over (One less loss), rounded up: the first of 0 to 64 that is not less; 64 stands for all above it.
func lossCounted(k, loss int) int {
	n := 0
	for n < 64 && n*(65536-loss) < k*loss {
		n++
	}
	return n
}

// burstCounted is burst over 16, rounded up, below 0: 0; counted as lossCounted.
func burstCounted(burst int) int {
	n := 0
	for n < 64 && n*16 < burst {
		n++
	}
	return n
}

// reckoned is the answer by the chapter's words, counted, not divided.
func reckoned(c call) int {
	switch {
	case c.k < 1 || c.loss < 1:
		return 0
	case c.loss > 65535:
		return 64
	case c.k > 32:
		return reckoned(call{32, c.loss, c.burst})
	}
	n := lossCounted(c.k, c.loss) + burstCounted(c.burst)
	if n > 64 {
		return 64
	}
	return n
}

// is asks for an answer.
func is(t *testing.T, c call, want int) {
	t.Helper()
	if n := need.Count(c.k, c.loss, c.burst); n != want {
		t.Fatalf("Count(%d, %d, %d): %d, not %d", c.k, c.loss, c.burst, n, want)
	}
}

// are asks for answers that are written down ahead.
func are(t *testing.T, l []told) {
	t.Helper()
	for _, x := range l {
		is(t, call{x.k, x.loss, x.burst}, x.want)
	}
}

// Examples: Count(10, 32768, 0): 10.
func TestExample(t *testing.T) {
	is(t, call{10, 32768, 0}, 10)
}

// P20.1: 0, if k is 0 or below, whatever the other two are: also where all is lost, in rows without end.
func TestNoSymbols(t *testing.T) {
	are(t, []told{{0, 32768, 0, 0}, {0, 1, 1, 0}, {0, 32768, 50, 0}, {-1, 5, 5, 0}, {-10, 32768, 0, 0}, {0, api.One, 0, 0}, {-1, api.One + 1, 16, 0}, {math.MinInt, 65535, 1024, 0}})
	for _, k := range none {
		for _, loss := range all(none, some, whole) {
			for _, burst := range all(none, some) {
				is(t, call{k, loss, burst}, 0)
			}
		}
	}
}

// P20.1: 0, if loss is 0 or below, whatever the other two are: a great burst is none then.
func TestNoLoss(t *testing.T) {
	are(t, []told{{10, 0, 0, 0}, {1, 0, 1, 0}, {10, 0, 50, 0}, {10, -5, 50, 0}, {32, 0, 1 << 40, 0}, {32, -1, math.MaxInt, 0}, {1, -api.One, 0, 0}, {32, math.MinInt, 16, 0}, {math.MaxInt, 0, math.MaxInt, 0}})
	for _, loss := range none {
		for _, k := range all(none, some) {
			for _, burst := range all(none, some) {
				is(t, call{k, loss, burst}, 0)
			}
		}
	}
}

// P20.1: MaxRepair, if loss is One or above, whatever k above 0 and burst are.
func TestAllIsLost(t *testing.T) {
	are(t, []told{{1, 65536, 0, 64}, {1, 65537, 0, 64}, {32, 65536, 0, 64}, {1, math.MaxInt, 0, 64}, {1, 65536, -16, 64}, {1, 65536, math.MinInt, 64}, {1, 131072, 1, 64}, {1 << 40, 65536, math.MaxInt, 64}})
	for _, loss := range whole {
		for _, k := range some {
			for _, burst := range all(none, some) {
				is(t, call{k, loss, burst}, api.MaxRepair)
			}
		}
	}
}

// P20.1: a loss below One is reckoned with, up to One less 1, whose parts are MaxRepair or more by themselves: 63 stands until they are more than that.
func TestAllButAllIsLost(t *testing.T) {
	are(t, []told{
		{1, 65535, 0, 64}, {2, 65535, 0, 64}, {32, 65535, 0, 64}, {1, 65534, 0, 64}, {1, 65535, math.MinInt, 64},
		// one symbol: 63 times as many are lost as come, and a little more
		{1, 64511, 0, 63}, {1, 64512, 0, 63}, {1, 64513, 0, 64}, {1, 64527, 0, 64}, {1, 64528, 0, 64},
		{2, 63519, 0, 63}, {2, 63520, 0, 64}, {3, 62557, 0, 63}, {3, 62558, 0, 64}, {31, 43923, 0, 63}, {31, 43924, 0, 64}, {32, 43460, 0, 63}, {32, 43461, 0, 64},
	})
}

// P20.1: k times loss over (One less loss), rounded up: where it comes out even, with 1 more and 1 less of loss on either side, and where it doesn't.
func TestKnownLosses(t *testing.T) {
	are(t, []told{
		// as many are lost as come
		{1, 32767, 0, 1}, {1, 32768, 0, 1}, {1, 32769, 0, 2}, {10, 32767, 0, 10}, {10, 32768, 0, 10}, {10, 32769, 0, 11}, {32, 32766, 0, 32}, {32, 32767, 0, 32}, {32, 32768, 0, 32}, {32, 32769, 0, 33},
		// three times as many
		{1, 49151, 0, 3}, {1, 49152, 0, 3}, {1, 49153, 0, 4}, {20, 49151, 0, 60}, {20, 49152, 0, 60}, {20, 49153, 0, 61}, {21, 49152, 0, 63},
		// a third, a seventh, a fifteenth, seven times as many
		{3, 16383, 0, 1}, {3, 16384, 0, 1}, {3, 16385, 0, 2}, {4, 16384, 0, 2}, {5, 16384, 0, 2}, {6, 16384, 0, 2}, {7, 16384, 0, 3}, {30, 16383, 0, 10}, {30, 16384, 0, 10}, {30, 16385, 0, 11},
		{7, 8191, 0, 1}, {7, 8192, 0, 1}, {7, 8193, 0, 2}, {28, 8191, 0, 4}, {28, 8192, 0, 4}, {28, 8193, 0, 5}, {15, 4096, 0, 1}, {15, 4097, 0, 2}, {30, 4095, 0, 2}, {30, 4096, 0, 2}, {30, 4097, 0, 3},
		{9, 57343, 0, 63}, {9, 57344, 0, 63}, {9, 57345, 0, 64}, {1, 57343, 0, 7}, {1, 57344, 0, 7}, {1, 57345, 0, 8},
		// a tenth, and about one in all
		{10, 6553, 0, 2}, {10, 6554, 0, 2}, {9, 6553, 0, 1}, {9, 6554, 0, 2}, {10, 5957, 0, 1}, {10, 5958, 0, 2}, {32, 1985, 0, 1}, {32, 1986, 0, 2}, {31, 2048, 0, 1}, {31, 2049, 0, 2},
		// the least loss of all is one more
		{1, 1, 0, 1}, {2, 1, 0, 1}, {31, 1, 0, 1}, {32, 1, 0, 1}, {32, 2, 0, 1},
		{20, 20000, 0, 9}, {12, 30000, 0, 11}, {32, 10000, 0, 6}, {5, 60000, 0, 55}, {6, 60000, 0, 64},
	})
}

// P20.1: wherever it comes out even, that many: the half of One and its halves, of each k that they divide; 1 less of loss as many, 1 more one more.
func TestWhereItComesOutEven(t *testing.T) {
	for bits := 2; bits <= 5; bits++ {
		part := 1<<bits - 1 // so many come, where one is lost
		for n := 1; n*part < api.MaxSource; n++ {
			loss := api.One >> bits
			is(t, call{n * part, loss - 1, 0}, n)
			is(t, call{n * part, loss, 0}, n)
			is(t, call{n * part, loss + 1, 0}, n+1)
			is(t, call{n*part - 1, loss, 0}, n)
			is(t, call{n*part + 1, loss, 0}, n+1)
		}
	}
	for bits := 1; bits <= 5; bits++ {
		part := 1<<bits - 1 // so many are lost, where one comes
		for k := 1; k <= api.MaxSource && k*part < api.MaxRepair; k++ {
			loss := api.One - api.One>>bits
			is(t, call{k, loss - 1, 0}, k*part)
			is(t, call{k, loss, 0}, k*part)
			is(t, call{k, loss + 1, 0}, k*part+1)
		}
	}
}

// P20.1: burst over 16, rounded up; below 0: 0.
func TestKnownBursts(t *testing.T) {
	for _, c := range []struct{ burst, more int }{
		{0, 0}, {1, 1}, {2, 1}, {15, 1}, {16, 1}, {17, 2}, {31, 2}, {32, 2}, {33, 3}, {47, 3}, {48, 3}, {49, 4}, {160, 10}, {161, 11}, {255, 16}, {256, 16}, {257, 17}, {992, 62}, {993, 63}, {1008, 63},
		{-1, 0}, {-15, 0}, {-16, 0}, {-17, 0}, {-31, 0}, {-32, 0}, {-33, 0}, {-1024, 0}, {-1 << 40, 0}, {math.MinInt + 1, 0}, {math.MinInt, 0},
	} {
		is(t, call{1, 1, c.burst}, 1+c.more)
		is(t, call{32, 1, c.burst}, 1+c.more)
	}
	for n := range 64 {
		for burst := 16*n - 15; burst <= 16*n; burst++ {
			is(t, call{1, 1, burst}, min(1+n, 64))
			is(t, call{10, 16384, burst}, min(4+n, 64))
		}
	}
}

// P20.1: a burst beyond all limits is MaxRepair: the greatest int too.
func TestGreatBursts(t *testing.T) {
	for _, burst := range []int{1009, 1023, 1024, 1025, 65536, math.MaxInt32, math.MaxInt32 + 1, math.MaxUint32, math.MaxUint32 + 1, 1 << 52, 1<<52 + 1, math.MaxInt - 16, math.MaxInt - 15, math.MaxInt - 14, math.MaxInt - 1, math.MaxInt} {
		for _, k := range some {
			for _, loss := range []int{1, 2, 100, 32768, 65534, 65535} {
				is(t, call{k, loss, burst}, api.MaxRepair)
			}
		}
	}
}

// P20.1: both together, rounded up each by itself: two that are less than one whole together are 2.
func TestBothTogether(t *testing.T) {
	are(t, []told{
		{1, 1, 1, 2}, {1, 1, 8, 2}, {1, 1, 15, 2}, {1, 1, 16, 2}, {1, 1, 17, 3}, {1, 1, -5, 1}, {1, 16384, 8, 2}, {3, 16384, 1, 2}, {3, 16384, 16, 2}, {3, 16385, 16, 3}, {3, 16385, 17, 4},
		{10, 32768, 1, 11}, {10, 32768, 16, 11}, {10, 32768, 17, 12}, {10, 32767, 17, 12}, {10, 32769, 1, 12}, {10, 6554, 24, 4}, {10, 6554, 32, 4}, {10, 6554, 33, 5},
		{10, 32768, -1, 10}, {10, 32768, -16, 10}, {10, 32768, -17, 10}, {10, 32768, math.MinInt, 10}, {32, 32768, -1000, 32},
	})
}

// P20.1: MaxRepair at most: sums of 63, 64 and 65, where one of the two alone is more, and where both are.
func TestMaxRepairAtMost(t *testing.T) {
	are(t, []told{
		{32, 32768, 496, 63}, {32, 32768, 497, 64}, {32, 32768, 512, 64}, {32, 32768, 513, 64}, {32, 32768, 528, 64}, {32, 32768, 529, 64},
		{31, 32768, 512, 63}, {31, 32768, 513, 64}, {31, 32768, 529, 64}, {1, 1, 992, 63}, {1, 1, 993, 64}, {1, 1, 1008, 64}, {1, 1, 1009, 64},
		{21, 49152, 0, 63}, {21, 49152, 1, 64}, {21, 49152, 16, 64}, {21, 49152, 17, 64}, {21, 49153, 0, 64}, {21, 49153, 1, 64},
		// the loss alone
		{32, 60000, 0, 64}, {32, 60000, -1024, 64}, {32, 49152, 0, 64}, {22, 49152, 0, 64}, {32, 65535, 0, 64}, {32, 65535, 1, 64}, {32, 60000, math.MinInt, 64},
		// the burst alone
		{1, 1, 1024, 64}, {1, 1, 1025, 64}, {1, 1, 1040, 64}, {1, 1, 2000, 64}, {1, 1, math.MaxInt, 64},
		// both
		{32, 60000, 1025, 64}, {32, 60000, 5000, 64}, {32, 65535, math.MaxInt, 64}, {math.MaxInt, 65535, math.MaxInt, 64},
	})
}

// P20.1: k above MaxSource counts as MaxSource.
func TestManySymbols(t *testing.T) {
	are(t, []told{
		{31, 32768, 0, 31}, {32, 32768, 0, 32}, {33, 32768, 0, 32}, {64, 32768, 0, 32}, {1 << 16, 32768, 0, 32}, {1 << 48, 32768, 0, 32}, {1 << 60, 32768, 0, 32}, {math.MaxInt, 32768, 0, 32},
		{32, 1985, 0, 1}, {33, 1985, 0, 1}, {33, 1986, 0, 2}, {math.MaxInt, 1985, 0, 1}, {math.MaxInt, 1986, 17, 4}, {math.MaxInt, 1, -3, 1}, {math.MaxInt, 0, 0, 0},
	})
	for loss := -1; loss <= api.One+1; loss++ {
		want := need.Count(api.MaxSource, loss, 20)
		for _, k := range []int{33, 34, 40, 64, 255, 256, 65536, math.MaxInt32, math.MaxInt/65536 + 1, math.MaxInt - 1, math.MaxInt} {
			is(t, call{k, loss, 20}, want)
		}
	}
}

// P20.1: each loss of each k, by the chapter's words.
func TestEachLoss(t *testing.T) {
	for k := 0; k <= api.MaxSource+1; k++ {
		for loss := -1; loss <= api.One+1; loss++ {
			is(t, call{k, loss, 0}, reckoned(call{k, loss, 0}))
		}
	}
}

// P20.1: each burst with each number that the losses come to, by the chapter's words.
func TestEachBurst(t *testing.T) {
	for _, c := range []call{{1, 1, 0}, {3, 16384, 0}, {3, 16385, 0}, {10, 20000, 0}, {17, 32768, 0}, {32, 32768, 0}, {33, 40000, 0}, {21, 49152, 0}, {1, 65535, 0}, {5, 65536, 0}, {5, 0, 0}, {0, 5, 0}} {
		for c.burst = -100; c.burst <= 1200; c.burst++ {
			is(t, c, reckoned(c))
		}
	}
	for n := 1; n <= 32; n++ {
		for burst := -20; burst <= 1040; burst++ {
			is(t, call{n, 32768, burst}, reckoned(call{n, 32768, burst}))
		}
	}
}

// neverLess goes on with an answer that may not be less than the last one.
func neverLess(t *testing.T, c call, last *int) {
	t.Helper()
	n := need.Count(c.k, c.loss, c.burst)
	if n < *last {
		t.Fatalf("Count(%d, %d, %d): %d, less than %d", c.k, c.loss, c.burst, n, *last)
	}
	*last = n
}

// 'What follows': more loss is never less repair, over all losses of 0 to One and beyond, for each k.
func TestMoreLossIsNeverLess(t *testing.T) {
	for k := 1; k <= api.MaxSource; k++ {
		for _, burst := range []int{math.MinInt, 0, 40, math.MaxInt} {
			last := 0
			for loss := 0; loss <= api.One; loss++ {
				neverLess(t, call{k, loss, burst}, &last)
			}
			for _, loss := range whole {
				neverLess(t, call{k, loss, burst}, &last)
			}
			if last != api.MaxRepair {
				t.Errorf("k %d, burst %d: %d in the end", k, burst, last)
			}
		}
	}
}

// P20.1: neither are more symbols less, nor is a longer row.
func TestMoreSymbolsAndLongerRowsAreNeverLess(t *testing.T) {
	for loss := 0; loss <= api.One; loss += 1 + loss%7 {
		last := 0
		for k := -2; k <= api.MaxSource+8; k++ {
			neverLess(t, call{k, loss, 33}, &last)
		}
		for _, k := range []int{64, 65536, math.MaxInt32, math.MaxInt} {
			neverLess(t, call{k, loss, 33}, &last)
		}
	}
	r := draw(5)
	for range 300 {
		c, last := r.within(), 0
		for _, burst := range none {
			c.burst = burst
			neverLess(t, c, &last)
		}
		for c.burst = 1; c.burst <= 1100; c.burst++ {
			neverLess(t, c, &last)
		}
		for _, burst := range []int{65536, math.MaxInt32, math.MaxInt} {
			c.burst = burst
			neverLess(t, c, &last)
		}
	}
}

// P20.1: drawn calls of any three ints: the answer lies between 0 and MaxRepair, and is the one by the chapter's words.
func TestDrawnCalls(t *testing.T) {
	r := draw(1)
	for range 300000 {
		c := call{r.any(), r.any(), r.any()}
		if n := need.Count(c.k, c.loss, c.burst); n < 0 || n > api.MaxRepair {
			t.Fatalf("Count(%d, %d, %d): %d", c.k, c.loss, c.burst, n)
		}
		is(t, c, reckoned(c))
		c = r.within()
		is(t, c, reckoned(c))
	}
}

// R4: a call hangs on no other: the same calls, in another order, tell the same.
func TestTheSameCallTellsTheSame(t *testing.T) {
	r := draw(9)
	var calls []call
	var answers []int
	for range 2000 {
		c := call{r.any(), r.any(), r.any()}
		if r.below(2) == 0 {
			c = r.within()
		}
		calls, answers = append(calls, c), append(answers, need.Count(c.k, c.loss, c.burst))
	}
	for i := len(calls) - 1; i >= 0; i-- {
		is(t, calls[i], answers[i])
		is(t, calls[i], answers[i])
	}
}
