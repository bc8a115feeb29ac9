package purse_test

import (
	"math"
	"slices"
	"testing"

	"girandole/api"
	"girandole/purse"
)

// told is a call, and what it answers.
type told struct {
	budget int
	wants  []api.Want
	gets   []int
}

// greedy wants all that there is, and is served ahead of everybody behind it: what is left over is its own, so the others show their parts alone.
var greedy = api.Want{ID: 0, Rank: math.MinInt, Bytes: api.MaxBudget}

// ends are ints at which something turns.
var ends = []int{
	math.MinInt, math.MinInt + 1, math.MinInt32 - 1, math.MinInt32, -api.MaxBudget - 1, -api.MaxBudget, -8, -1, 0, 1, 2, 3, 4, 5, 8, 9, 100,
	api.MaxBudget - 1, api.MaxBudget, api.MaxBudget + 1, math.MaxInt32, math.MaxInt32 + 1, math.MaxUint32, math.MaxUint32 + 1, 1<<48 + 5, math.MaxInt - 1, math.MaxInt,
}

// draw is a run of numbers that is the same each time.
type draw uint32

func (r *draw) next() uint32 {
	*r = *r*1664525 + 1013904223
	return uint32(*r)>>16 | uint32(*r)<<16
}

// below is one from 0 to n - 1.
func (r *draw) below(n int) int { return int(r.next() % uint32(n)) }

// any is any int: a great one, a small one, or one at the ends.
func (r *draw) any() int {
	if r.below(4) == 0 {
		return ends[r.below(len(ends))]
	}
	return int(uint64(r.next())<<32|uint64(r.next())) >> r.below(64)
}

// id is one of a few, now and then any other, so that some are alike.
func (r *draw) id() uint32 {
	switch r.below(6) {
	case 0:
		return math.MaxUint32 - r.next()%2
	case 1:
		return r.next()
	}
	return r.next() % 3
}

// wants are n of them; each Bytes lies below most, or is any int, where most is 0.
func (r *draw) wants(n, most int) []api.Want {
	l := make([]api.Want, n)
	for i := range l {
		l[i] = api.Want{ID: r.id(), Rank: r.below(8) - 2, Bytes: r.any()}
		if r.below(8) == 0 {
			l[i].Rank = r.any()
		}
		if most > 0 {
			l[i].Bytes = r.below(most)
		}
	}
	return l
}

// between is n within 0 and MaxBudget.
func between(n int) int {
	if n < 0 {
		return 0
	}
	if n > 65536 {
		return 65536
	}
	return n
}

// weighs is the weight of a rank.
func weighs(rank int) int {
	switch {
	case rank <= 0:
		return 8
	case rank == 1:
		return 4
	case rank == 2:
		return 2
	}
	return 1
}

// ahead tells whether a, that stands ahead of b, is served ahead of it too.
func ahead(a, b api.Want) bool {
	if a.Rank != b.Rank {
		return a.Rank < b.Rank
	}
	return a.ID <= b.ID
}

// reckoned is the answer by the chapter's words: parts that are counted, not divided, and then again and again the first one that wants more.
func reckoned(budget int, wants []api.Want) []int {
	gets, sum, left := make([]int, len(wants)), 0, between(budget)
	for _, w := range wants {
		sum += weighs(w.Rank)
	}
	for i, w := range wants {
		for gets[i] < between(w.Bytes) && (gets[i]+1)*sum <= between(budget)*weighs(w.Rank) {
			gets[i]++
		}
	}
	for _, n := range gets {
		left -= n
	}
	for left > 0 {
		first := -1
		for i, w := range wants {
			if gets[i] < between(w.Bytes) && (first < 0 || !ahead(wants[first], w)) {
				first = i
			}
		}
		if first < 0 {
			break
		}
		n := between(wants[first].Bytes) - gets[first]
		if n > left {
			n = left
		}
		gets[first] += n
		left -= n
	}
	return gets
}

// is asks for an answer.
func is(t *testing.T, budget int, wants []api.Want, gets []int) {
	t.Helper()
	if l := purse.Split(budget, wants); !slices.Equal(l, gets) {
		if len(wants) > 20 {
			t.Fatalf("Split(%d, %d wants): not what is asked for", budget, len(wants))
		}
		t.Fatalf("Split(%d, %v): %v, not %v", budget, wants, l, gets)
	}
}

// are asks for answers that are written down ahead.
func are(t *testing.T, l []told) {
	t.Helper()
	for _, x := range l {
		is(t, x.budget, x.wants, x.gets)
	}
}

// Examples: Split(90, an I of 100, a B that is free of 100): 80, 10.
func TestExample(t *testing.T) {
	is(t, 90, []api.Want{{ID: 1, Rank: api.RankI, Bytes: 100}, {ID: 2, Rank: api.RankFree, Bytes: 100}}, []int{80, 10})
}

// P21.1: no wants, nil or empty: no answers, whatever there is.
func TestNobodyWants(t *testing.T) {
	for _, budget := range ends {
		is(t, budget, nil, nil)
		is(t, budget, []api.Want{}, nil)
		is(t, budget, []api.Want{{ID: 1, Bytes: 5}, {ID: 2, Bytes: 5}}[:0], nil)
	}
}

// P21.1: one alone gets what it wants, or all that there is, of whatever rank it is.
func TestOneAlone(t *testing.T) {
	for _, rank := range ends {
		for _, id := range []uint32{0, 1, math.MaxUint32} {
			one := func(bytes int) []api.Want { return []api.Want{{ID: id, Rank: rank, Bytes: bytes}} }
			are(t, []told{
				{0, one(0), []int{0}}, {0, one(1), []int{0}}, {1, one(0), []int{0}}, {1, one(1), []int{1}}, {1, one(2), []int{1}},
				{99, one(100), []int{99}}, {100, one(100), []int{100}}, {101, one(100), []int{100}},
				{65536, one(65535), []int{65535}}, {65535, one(65536), []int{65535}}, {65536, one(65536), []int{65536}},
			})
		}
	}
}

// P21.1: a budget below 0 is 0: nobody gets anything.
func TestNoBudget(t *testing.T) {
	l := []api.Want{{ID: 1, Bytes: 5}, {ID: 2, Rank: 3, Bytes: 100}, {ID: 3, Rank: 1, Bytes: math.MaxInt}, {ID: 4, Rank: -1, Bytes: -5}}
	for _, budget := range []int{0, -1, -2, -8, -100, -65536, -65537, math.MinInt32, math.MinInt + 1, math.MinInt} {
		is(t, budget, l, []int{0, 0, 0, 0})
		is(t, budget, l[:1], []int{0})
	}
}

// P21.1: a budget above MaxBudget is MaxBudget.
func TestGreatBudget(t *testing.T) {
	one := []api.Want{{ID: 1, Bytes: math.MaxInt}}
	two := []api.Want{{ID: 1, Rank: 0, Bytes: 1 << 40}, {ID: 2, Rank: 3, Bytes: 1 << 40}}
	three := []api.Want{{ID: 1, Rank: 1, Bytes: 65536}, {ID: 2, Rank: 2, Bytes: 65536}, {ID: 3, Rank: 2, Bytes: 65536}}
	are(t, []told{{65535, one, []int{65535}}, {65535, two, []int{58254, 7281}}, {65535, three, []int{32769, 16383, 16383}}})
	for _, budget := range []int{65536, 65537, 65544, 65545, 131072, math.MaxInt32, math.MaxInt32 + 1, 1 << 32, 1<<32 + 9, 1 << 48, 1 << 60, math.MaxInt/8 + 1, math.MaxInt - 1, math.MaxInt} {
		are(t, []told{{budget, one, []int{65536}}, {budget, two, []int{58255, 7281}}, {budget, three, []int{32768, 16384, 16384}}})
	}
}

// P21.1: Bytes below 0 are 0: they take nothing, and give nobody more than there is.
func TestNoBytes(t *testing.T) {
	for _, bytes := range []int{0, -1, -5, -100, -65536, -65537, math.MinInt32, math.MinInt + 1, math.MinInt} {
		are(t, []told{
			{10, []api.Want{{ID: 1, Bytes: bytes}}, []int{0}},
			{10, []api.Want{{ID: 1, Bytes: bytes}, {ID: 2, Bytes: 5}}, []int{0, 5}},
			{10, []api.Want{{ID: 1, Bytes: bytes}, {ID: 2, Bytes: 50}}, []int{0, 10}},
			{10, []api.Want{{ID: 2, Bytes: 50}, {ID: 1, Bytes: bytes}}, []int{10, 0}},
			{10, []api.Want{{ID: 1, Bytes: bytes}, {ID: 2, Rank: 3, Bytes: 50}, {ID: 3, Rank: -1, Bytes: bytes}}, []int{0, 10, 0}},
			{65536, []api.Want{{ID: 1, Bytes: bytes}, {ID: 2, Bytes: 1}, {ID: 3, Bytes: bytes}}, []int{0, 1, 0}},
		})
	}
}

// P21.1: Bytes above MaxBudget are MaxBudget.
func TestGreatBytes(t *testing.T) {
	for _, bytes := range []int{65536, 65537, 131072, math.MaxInt32, math.MaxInt32 + 1, 1 << 32, 1<<32 + 5, 1 << 60, math.MaxInt - 1, math.MaxInt} {
		are(t, []told{
			{65536, []api.Want{{ID: 1, Bytes: bytes}}, []int{65536}},
			{math.MaxInt, []api.Want{{ID: 1, Bytes: bytes}}, []int{65536}},
			{90, []api.Want{{ID: 1, Bytes: bytes}, {ID: 2, Rank: 3, Bytes: bytes}}, []int{80, 10}},
			{91, []api.Want{{ID: 1, Bytes: bytes}, {ID: 2, Rank: 3, Bytes: bytes}}, []int{81, 10}},
			{91, []api.Want{{ID: 1, Bytes: 5}, {ID: 2, Rank: 3, Bytes: bytes}}, []int{5, 86}},
			{math.MaxInt, []api.Want{{ID: 1, Bytes: bytes}, {ID: 2, Bytes: bytes}, {ID: 3, Bytes: bytes}}, []int{21846, 21845, 21845}},
		})
	}
	is(t, math.MaxInt, []api.Want{{ID: 1, Bytes: 65535}, {ID: 2, Rank: 3, Bytes: math.MaxInt}}, []int{58255, 7281})
	is(t, 65536, []api.Want{{ID: 1, Bytes: 65535}}, []int{65535})
}

// ranked are ranks, and the weight of each.
var ranked = []struct{ rank, weight int }{
	{0, 8}, {1, 4}, {2, 2}, {3, 1},
	{-1, 8}, {-2, 8}, {-3, 8}, {-4, 8}, {-8, 8}, {-256, 8}, {math.MinInt32, 8}, {math.MinInt32 - 1, 8}, {math.MinInt + 1, 8}, {math.MinInt, 8},
	{4, 1}, {5, 1}, {7, 1}, {8, 1}, {255, 1}, {256, 1}, {math.MaxInt32, 1}, {math.MaxUint32, 1}, {math.MaxUint32 + 1, 1}, {math.MaxInt - 1, 1}, {math.MaxInt, 1},
}

// P21.1: the weights: rank 0: 8; 1: 4; 2: 2; 3: 1; below 0: 8; above 3: 1; alone with one whose weight is 8.
func TestWeights(t *testing.T) {
	for _, x := range ranked {
		w := api.Want{ID: 5, Rank: x.rank, Bytes: api.MaxBudget}
		for _, times := range []int{1, 2, 10, 100, 4000} {
			budget := times * (8 + x.weight)
			is(t, budget, []api.Want{greedy, w}, []int{times * 8, times * x.weight})
			is(t, budget, []api.Want{w, greedy}, []int{times * x.weight, times * 8})
		}
	}
}

// P21.1: the weights of all pairs of ranks, beside one that takes what is left over.
func TestWeightsOfPairs(t *testing.T) {
	for _, x := range ranked {
		for _, y := range ranked {
			a, b := api.Want{ID: 1, Rank: x.rank, Bytes: api.MaxBudget}, api.Want{ID: 2, Rank: y.rank, Bytes: api.MaxBudget}
			sum := 8 + x.weight + y.weight
			is(t, 30*sum, []api.Want{a, greedy, b}, []int{30 * x.weight, 240, 30 * y.weight})
			is(t, 30*sum+sum-1, []api.Want{b, a, greedy}, []int{30*y.weight + (sum-1)*y.weight/sum, 30*x.weight + (sum-1)*x.weight/sum, 240 + sum - 1 - (sum-1)*y.weight/sum - (sum-1)*x.weight/sum})
		}
	}
}

// P21.1: all ranks at once: 8, 8, 8, 4, 2, 1, 1 and 1 of 33.
func TestAllRanksAtOnce(t *testing.T) {
	l := []api.Want{
		{ID: 8, Rank: math.MinInt, Bytes: 5000}, {ID: 7, Rank: -1, Bytes: 5000}, {ID: 6, Rank: 0, Bytes: 5000}, {ID: 5, Rank: 1, Bytes: 5000},
		{ID: 4, Rank: 2, Bytes: 5000}, {ID: 3, Rank: 3, Bytes: 5000}, {ID: 2, Rank: 4, Bytes: 5000}, {ID: 1, Rank: math.MaxInt, Bytes: 5000},
	}
	are(t, []told{
		{33, l, []int{8, 8, 8, 4, 2, 1, 1, 1}}, {3300, l, []int{800, 800, 800, 400, 200, 100, 100, 100}},
		{32, l, []int{14, 7, 7, 3, 1, 0, 0, 0}}, {34, l, []int{9, 8, 8, 4, 2, 1, 1, 1}},
	})
}

// P21.1: first each: where all parts come out even nothing is left over; 1 more is left over, and goes to the first; of 1 less all that is cut off does.
func TestPartsAreCutOff(t *testing.T) {
	ib := []api.Want{{ID: 1, Rank: 0, Bytes: 65536}, {ID: 2, Rank: 3, Bytes: 65536}}
	pb := []api.Want{{ID: 1, Rank: 1, Bytes: 65536}, {ID: 2, Rank: 3, Bytes: 65536}}
	bi := []api.Want{{ID: 2, Rank: 3, Bytes: 65536}, {ID: 1, Rank: 0, Bytes: 65536}}
	ii := []api.Want{{ID: 1, Bytes: 65536}, {ID: 2, Bytes: 65536}}
	iii := []api.Want{{ID: 1, Bytes: 65536}, {ID: 2, Bytes: 65536}, {ID: 3, Bytes: 65536}}
	ipbb := []api.Want{{ID: 1, Rank: 0, Bytes: 65536}, {ID: 2, Rank: 1, Bytes: 65536}, {ID: 3, Rank: 2, Bytes: 65536}, {ID: 4, Rank: 3, Bytes: 65536}}
	are(t, []told{
		{89, ib, []int{80, 9}}, {90, ib, []int{80, 10}}, {91, ib, []int{81, 10}}, {98, ib, []int{88, 10}}, {99, ib, []int{88, 11}}, {100, ib, []int{89, 11}},
		{89, bi, []int{9, 80}}, {90, bi, []int{10, 80}}, {91, bi, []int{10, 81}}, {98, bi, []int{10, 88}}, {99, bi, []int{11, 88}},
		{1, ib, []int{1, 0}}, {8, ib, []int{8, 0}}, {9, ib, []int{8, 1}}, {10, ib, []int{9, 1}}, {17, ib, []int{16, 1}}, {18, ib, []int{16, 2}},
		{49, pb, []int{40, 9}}, {50, pb, []int{40, 10}}, {51, pb, []int{41, 10}}, {54, pb, []int{44, 10}}, {55, pb, []int{44, 11}},
		{99, ii, []int{50, 49}}, {100, ii, []int{50, 50}}, {101, ii, []int{51, 50}},
		{299, iii, []int{101, 99, 99}}, {300, iii, []int{100, 100, 100}}, {301, iii, []int{101, 100, 100}}, {302, iii, []int{102, 100, 100}}, {303, iii, []int{101, 101, 101}},
		{149, ipbb, []int{82, 39, 19, 9}}, {150, ipbb, []int{80, 40, 20, 10}}, {151, ipbb, []int{81, 40, 20, 10}}, {164, ipbb, []int{90, 43, 21, 10}}, {165, ipbb, []int{88, 44, 22, 11}},
	})
	for n := 1; n*9 <= api.MaxBudget; n += 1 + n/50 {
		are(t, []told{{n*9 - 1, ib, []int{n * 8, n - 1}}, {n * 9, ib, []int{n * 8, n}}, {n*9 + 1, ib, []int{n*8 + 1, n}}})
	}
}

// P21.1: first each: no more than its Bytes: one less, as many, one more than its part.
func TestPartsAreNoMoreThanTheBytes(t *testing.T) {
	with := func(bytes int) []api.Want {
		return []api.Want{{ID: 1, Rank: 0, Bytes: bytes}, {ID: 2, Rank: 3, Bytes: 100}}
	}
	but := func(bytes int) []api.Want {
		return []api.Want{greedy, {ID: 1, Rank: 1, Bytes: bytes}, {ID: 2, Rank: 2, Bytes: 1000}, {ID: 3, Rank: 2, Bytes: bytes}}
	}
	are(t, []told{
		{90, with(0), []int{0, 90}}, {90, with(1), []int{1, 89}}, {90, with(79), []int{79, 11}}, {90, with(80), []int{80, 10}}, {90, with(81), []int{80, 10}}, {91, with(81), []int{81, 10}}, {92, with(81), []int{81, 11}},
		// what the others don't take is left for the first one, not for the next
		{160, but(19), []int{102, 19, 20, 19}}, {160, but(20), []int{100, 20, 20, 20}}, {160, but(21), []int{99, 21, 20, 20}},
		{160, but(39), []int{81, 39, 20, 20}}, {160, but(40), []int{80, 40, 20, 20}}, {160, but(41), []int{80, 40, 20, 20}}, {160, but(1), []int{138, 1, 20, 1}}, {160, but(0), []int{140, 0, 20, 0}},
		// as many as their parts, all of them: nothing is left over, or all that there is more
		{90, []api.Want{{ID: 1, Rank: 0, Bytes: 80}, {ID: 2, Rank: 3, Bytes: 10}}, []int{80, 10}},
		{99, []api.Want{{ID: 1, Rank: 0, Bytes: 80}, {ID: 2, Rank: 3, Bytes: 10}}, []int{80, 10}},
		{90, []api.Want{{ID: 1, Rank: 0, Bytes: 79}, {ID: 2, Rank: 3, Bytes: 9}}, []int{79, 9}},
		{90, []api.Want{{ID: 1, Rank: 0, Bytes: 81}, {ID: 2, Rank: 3, Bytes: 11}}, []int{80, 10}},
		{91, []api.Want{{ID: 1, Rank: 0, Bytes: 81}, {ID: 2, Rank: 3, Bytes: 11}}, []int{81, 10}},
		{92, []api.Want{{ID: 1, Rank: 0, Bytes: 81}, {ID: 2, Rank: 3, Bytes: 11}}, []int{81, 11}},
	})
}

// P21.1: the weight of one who wants nothing is in the sum all the same.
func TestWhoWantsNothingWeighsToo(t *testing.T) {
	for _, bytes := range []int{0, -1, math.MinInt} {
		for _, x := range ranked {
			idle := api.Want{ID: 7, Rank: x.rank, Bytes: bytes}
			w := api.Want{ID: 9, Rank: 3, Bytes: 1000}
			budget := 20 * (9 + x.weight)
			is(t, budget, []api.Want{idle, greedy, w}, []int{0, budget - 20, 20})
			is(t, budget-1, []api.Want{greedy, w, idle}, []int{budget - 20, 19, 0})
			is(t, budget+8+x.weight, []api.Want{greedy, w, idle}, []int{budget + x.weight - 12, 20, 0})
			is(t, budget+9+x.weight, []api.Want{greedy, idle, w}, []int{budget + x.weight - 12, 0, 21})
		}
	}
	is(t, 100, []api.Want{{ID: 1, Rank: 0}, {ID: 2, Rank: 1}, {ID: 3, Rank: 3}}, []int{0, 0, 0})
}

// queue are eight of which each wants one more than its part of 8, in the order in which they are served.
func queue() []api.Want {
	return []api.Want{
		{ID: math.MaxUint32, Rank: math.MinInt, Bytes: 9}, {ID: 7, Rank: -2, Bytes: 9}, {ID: 6, Rank: -1, Bytes: 9}, {ID: 0, Rank: 0, Bytes: 9},
		{ID: 1, Rank: 0, Bytes: 9}, {ID: 1 << 31, Rank: 0, Bytes: 9}, {ID: math.MaxUint32 - 1, Rank: 0, Bytes: 9}, {ID: math.MaxUint32, Rank: 0, Bytes: 9},
	}
}

// P21.1: what is left goes to those that want more, by Rank, each by its own number, then ID: one byte after the other, in the order in which they are served and against it.
func TestTheRestGoesByRankThenID(t *testing.T) {
	l := queue()
	back := slices.Clone(l)
	slices.Reverse(back)
	gets := []int{8, 8, 8, 8, 8, 8, 8, 8}
	for left := range 8 { // of 64 each has 8; 8 more are one more for each
		turned := slices.Clone(gets)
		slices.Reverse(turned)
		is(t, 64+left, l, gets)
		is(t, 64+left, back, turned)
		gets[left] = 9
	}
	is(t, 72, l, gets)
	is(t, 73, back, gets)
}

// odd asks that of 101 the odd one goes to the first of two that differ in nothing but what stands in them, whichever stands ahead.
func odd(t *testing.T, first, second api.Want) {
	t.Helper()
	is(t, 101, []api.Want{first, second}, []int{51, 50})
	is(t, 101, []api.Want{second, first}, []int{50, 51})
}

// P21.1: by Rank, also of those that weigh the same, below 0 and above 3: each by its own number, whatever the IDs are.
func TestTheRestGoesByRank(t *testing.T) {
	for _, ranks := range [][]int{{math.MinInt, math.MinInt + 1, math.MinInt32 - 1, math.MinInt32, -3, -2, -1, 0}, {3, 4, 5, 8, 256, math.MaxInt32, math.MaxInt32 + 1, math.MaxInt - 1, math.MaxInt}} {
		for i := range ranks {
			for j := range i {
				for _, ids := range [][2]uint32{{0, 1}, {1, 1}, {1, 0}, {0, math.MaxUint32}, {math.MaxUint32, 0}} {
					odd(t, api.Want{ID: ids[0], Rank: ranks[j], Bytes: 80}, api.Want{ID: ids[1], Rank: ranks[i], Bytes: 80})
				}
			}
		}
	}
	is(t, 12, []api.Want{{ID: 1, Rank: math.MaxInt, Bytes: 50}, {ID: 2, Rank: math.MinInt, Bytes: 50}}, []int{1, 11})
	is(t, 12, []api.Want{{ID: 2, Rank: math.MinInt, Bytes: 50}, {ID: 1, Rank: math.MaxInt, Bytes: 50}}, []int{11, 1})
}

// P21.1: of one Rank by ID: 0 and the greatest too.
func TestTheRestGoesByID(t *testing.T) {
	ids := []uint32{0, 1, 2, 255, 256, 65536, 1<<31 - 1, 1 << 31, math.MaxUint32 - 1, math.MaxUint32}
	for i := range ids {
		for j := range i {
			for _, rank := range []int{math.MinInt, -1, 0, 1, 2, 3, 4, math.MaxInt} {
				odd(t, api.Want{ID: ids[j], Rank: rank, Bytes: 80}, api.Want{ID: ids[i], Rank: rank, Bytes: 80})
			}
		}
	}
}

// P21.1: the Rank is asked ahead of the ID: of all pairs of ranks and IDs.
func TestRankAheadOfID(t *testing.T) {
	for rank := -2; rank <= 5; rank++ {
		for id := range uint32(4) {
			a := api.Want{ID: id, Rank: rank, Bytes: 1000}
			b := api.Want{ID: 1, Rank: 1, Bytes: 1000}
			sum := weighs(rank) + 4
			first, second := 47*weighs(rank)/sum, 47*4/sum
			left := 47 - first - second
			if rank < 1 || rank == 1 && id <= 1 {
				first += left
			} else {
				second += left
			}
			is(t, 47, []api.Want{a, b}, []int{first, second})
		}
	}
}

// P21.1: of one Rank and one ID, by place: also of so many that a sort that asks for nothing else would turn them.
func TestTheRestGoesByPlace(t *testing.T) {
	are(t, []told{
		{7, []api.Want{{ID: 1, Bytes: 5}, {ID: 1, Bytes: 5}}, []int{4, 3}}, {8, []api.Want{{ID: 1, Bytes: 5}, {ID: 1, Bytes: 5}}, []int{4, 4}}, {9, []api.Want{{ID: 1, Bytes: 5}, {ID: 1, Bytes: 5}}, []int{5, 4}},
		{9, []api.Want{{ID: 1, Bytes: 9}, {ID: 1, Bytes: 3}}, []int{6, 3}}, {9, []api.Want{{ID: 1, Bytes: 3}, {ID: 1, Bytes: 9}}, []int{3, 6}},
		{5, []api.Want{{ID: 1, Bytes: 5}, {ID: 0, Bytes: 5}, {ID: 1, Bytes: 5}, {ID: 0, Bytes: 5}}, []int{1, 2, 1, 1}},
	})
	for _, n := range []int{2, 3, 12, 13, 14, 50, 51, 100, 999, 1000} {
		l, gets := make([]api.Want, n), make([]int, n)
		for i := range l {
			l[i] = api.Want{ID: 4, Rank: 2, Bytes: 13}
			gets[i] = 10
		}
		is(t, 10*n, l, gets)
		for left := 1; left < n; left += 1 + n/40 {
			for i := range gets {
				switch {
				case i < left/3:
					gets[i] = 13
				case i == left/3:
					gets[i] = 10 + left%3
				default:
					gets[i] = 10
				}
			}
			is(t, 10*n+left, l, gets)
		}
	}
}

// P21.1: IDs and ranks that are alike lie scattered among many others: of these too the place decides.
func TestPlacesAmongMany(t *testing.T) {
	r := draw(3)
	for range 40 {
		l := make([]api.Want, 200+r.below(800))
		for i := range l {
			l[i] = api.Want{ID: uint32(r.below(2)), Rank: r.below(4), Bytes: 1 + r.below(60)}
		}
		for range 4 {
			budget := r.below(20 * len(l))
			is(t, budget, l, reckoned(budget, l))
		}
	}
}

// P21.1: each as much as it wants, while there is some: left over for none, a part of the first one, the first one whole, a part of the second, and so on to the last; then something is kept.
func TestWhileThereIsSome(t *testing.T) {
	// the last one in turn stands first; 15 more of budget are 8, 4, 2 and 1 more
	l := []api.Want{{ID: 4, Rank: 3, Bytes: 5}, {ID: 3, Rank: 2, Bytes: 15}, {ID: 2, Rank: 1, Bytes: 30}, {ID: 1, Rank: 0, Bytes: 50}}
	are(t, []told{
		// left over for none
		{75, l, []int{5, 10, 20, 40}},
		// for a part of the first one
		{76, l, []int{5, 10, 20, 41}}, {78, l, []int{5, 10, 20, 43}}, {84, l, []int{5, 11, 22, 46}}, {85, l, []int{5, 11, 22, 47}}, {86, l, []int{5, 11, 22, 48}}, {88, l, []int{5, 11, 23, 49}},
		// for the first one whole
		{89, l, []int{5, 11, 23, 50}}, {91, l, []int{5, 12, 24, 50}},
		// and a part of the second
		{92, l, []int{5, 12, 25, 50}}, {95, l, []int{5, 12, 28, 50}}, {96, l, []int{5, 12, 29, 50}},
		// and that one whole, and a part of the third
		{97, l, []int{5, 12, 30, 50}}, {98, l, []int{5, 13, 30, 50}}, {99, l, []int{5, 14, 30, 50}},
		// for all, and something is kept
		{100, l, []int{5, 15, 30, 50}}, {101, l, []int{5, 15, 30, 50}}, {65536, l, []int{5, 15, 30, 50}}, {math.MaxInt, l, []int{5, 15, 30, 50}},
	})
	// of which one gets its part first, and has it all the same when it is served last
	m := []api.Want{{ID: 1, Bytes: 100}, {ID: 2, Bytes: 100}, {ID: 3, Bytes: 1}}
	are(t, []told{{3, m, []int{1, 1, 1}}, {30, m, []int{19, 10, 1}}, {120, m, []int{79, 40, 1}}, {150, m, []int{99, 50, 1}}, {151, m, []int{100, 50, 1}}, {153, m, []int{100, 52, 1}}, {200, m, []int{100, 99, 1}}, {201, m, []int{100, 100, 1}}, {202, m, []int{100, 100, 1}}})
	// of which the first one wants nothing more
	full := []api.Want{{ID: 1, Rank: 0, Bytes: 10}, {ID: 2, Rank: 0, Bytes: 0}, {ID: 3, Rank: 3, Bytes: 30}, {ID: 4, Rank: 3, Bytes: 30}}
	are(t, []told{{36, full, []int{10, 0, 24, 2}}, {40, full, []int{10, 0, 28, 2}}, {42, full, []int{10, 0, 30, 2}}, {43, full, []int{10, 0, 30, 3}}, {69, full, []int{10, 0, 30, 29}}, {70, full, []int{10, 0, 30, 30}}, {71, full, []int{10, 0, 30, 30}}})
}

// orders goes through all orders of n places.
func orders(n int, each func([]int)) {
	var from func(done []int)
	from = func(done []int) {
		if len(done) == n {
			each(done)
			return
		}
		for i := range n {
			if !slices.Contains(done, i) {
				from(append(slices.Clone(done), i))
			}
		}
	}
	from(nil)
}

// P21.1: answers in the order of wants, whatever order they are served in: in each order of six, each gets the same.
func TestAnswersInTheOrderOfWants(t *testing.T) {
	l := []api.Want{{ID: 3, Rank: 0, Bytes: 31}, {ID: 9, Rank: -1, Bytes: 32}, {ID: 1, Rank: 1, Bytes: 33}, {ID: 2, Rank: 1, Bytes: 34}, {ID: 0, Rank: 3, Bytes: 35}, {ID: 0, Rank: 7, Bytes: 36}}
	for _, x := range []told{{52, l, []int{16, 16, 8, 8, 2, 2}}, {77, l, []int{23, 28, 11, 11, 2, 2}}, {85, l, []int{26, 27, 13, 13, 3, 3}}, {120, l, []int{31, 32, 31, 18, 4, 4}}} {
		orders(len(l), func(order []int) {
			wants, asked := make([]api.Want, len(l)), make([]int, len(l))
			for i, place := range order {
				wants[i], asked[i] = l[place], x.gets[place]
			}
			is(t, x.budget, wants, asked)
		})
	}
}

// P21.1: 1,000 wants: all alike, all ranks, each with a byte, and those that want more than there is.
func TestAThousandWants(t *testing.T) {
	alike, byRank := make([]api.Want, 1000), make([]api.Want, 1000)
	for i := range alike {
		alike[i] = api.Want{ID: uint32(1000 - i), Bytes: 66}
		byRank[i] = api.Want{ID: uint32(i), Rank: i%6 - 1, Bytes: api.MaxBudget}
	}
	// 65 each, and 536 more for the last ones, whose IDs are the least
	gets := make([]int, 1000)
	for i := range gets {
		gets[i] = 65
		if i >= 1000-536 {
			gets[i] = 66
		}
	}
	is(t, 65536, alike, gets)
	is(t, 999, alike, reckoned(999, alike))
	is(t, 65, alike, append(make([]int, 999), 65))
	for _, budget := range []int{0, 1, 8, 500, 999, 1000, 1001, 4000, 8000, 65535, 65536, math.MaxInt} {
		is(t, budget, alike, reckoned(budget, alike))
		is(t, budget, byRank, reckoned(budget, byRank))
	}
	if l := purse.Split(1000, alike); l[999] != 1 || l[0] != 1 {
		t.Errorf("a byte each: %d for the first, %d for the last", l[0], l[999])
	}
	r := draw(21)
	for range 30 {
		l, budget := r.wants(1000, 0), r.any()
		is(t, budget, l, reckoned(budget, l))
		l = r.wants(1000, 200)
		is(t, 65536, l, reckoned(65536, l))
	}
}

// P21.1: each budget up to where all have what they want, of a few, by the chapter's words.
func TestEachBudget(t *testing.T) {
	r := draw(11)
	for range 60 {
		l, sum := r.wants(1+r.below(8), 90), 0
		for _, w := range l {
			sum += w.Bytes
		}
		for budget := -2; budget <= sum+3; budget++ {
			is(t, budget, l, reckoned(budget, l))
		}
	}
}

// P21.1: drawn calls of any ints, by the chapter's words.
func TestDrawnCalls(t *testing.T) {
	r := draw(1)
	for range 10000 {
		l, budget := r.wants(r.below(12), 0), r.any()
		is(t, budget, l, reckoned(budget, l))
		l = r.wants(r.below(30), 1+r.below(300))
		budget = r.below(3000)
		is(t, budget, l, reckoned(budget, l))
	}
}

// 'What follows': the sum of the answers is the budget or the sum of what is wanted, whichever is less, and nobody gets more than it wants.
func TestNoMoreThanThereIsAndNothingKeptBack(t *testing.T) {
	r := draw(2)
	for range 30000 {
		l, budget := r.wants(r.below(20), 0), r.any()
		if r.below(2) == 0 {
			l, budget = r.wants(r.below(20), 1+r.below(2000)), r.below(20000)
		}
		gets := purse.Split(budget, l)
		if len(gets) != len(l) {
			t.Fatalf("Split(%d, %v): %d answers", budget, l, len(gets))
		}
		wanted, given := 0, 0
		for i, w := range l {
			if gets[i] < 0 || gets[i] > between(w.Bytes) {
				t.Fatalf("Split(%d, %v): %d for the one at place %d", budget, l, gets[i], i)
			}
			wanted += between(w.Bytes)
			given += gets[i]
		}
		if given != min(wanted, between(budget)) {
			t.Fatalf("Split(%d, %v): %v: %d are given, %d wanted", budget, l, gets, given, wanted)
		}
	}
}

// R1: beyond 1,000 wants nothing is promised, but a call ends, and does not panic.
func TestMoreThanAThousandEnd(t *testing.T) {
	r := draw(4)
	for _, n := range []int{1001, 65537, 300000} {
		purse.Split(r.any(), r.wants(n, 0))
		purse.Split(math.MaxInt, r.wants(n, 50))
	}
}

// R3: wants and their spare room read as before.
func TestWantsReadAsBefore(t *testing.T) {
	r := draw(6)
	for range 2000 {
		n := r.below(40)
		all := r.wants(n+5, 0)
		before := slices.Clone(all)
		purse.Split(r.any(), all[:n])
		purse.Split(r.below(5000), all[:n:n])
		if !slices.Equal(all, before) {
			t.Fatalf("%d wants: %v became %v", n, before, all)
		}
	}
}

// R3: the answer is new memory, its spare room too, and the wants aren't kept: whatever becomes of either, the next answer is the same.
func TestTheAnswerIsNewMemory(t *testing.T) {
	r := draw(7)
	for range 500 {
		l, budget := r.wants(1+r.below(40), 0), r.any()
		gets := reckoned(budget, l)
		first, second := purse.Split(budget, l), purse.Split(budget, l)
		first = first[:cap(first)]
		for i := range first {
			first[i] = -7
		}
		if !slices.Equal(second, gets) {
			t.Fatalf("Split(%d, %v): %v, when another answer was written to", budget, l, second)
		}
		is(t, budget, l, gets)
		for i := range l {
			l[i] = api.Want{ID: 9, Rank: -9, Bytes: -9}
		}
		if !slices.Equal(second, gets) {
			t.Fatalf("Split(%d, ..): %v, when the wants were written to", budget, second)
		}
	}
}

// R4: a call hangs on no other: the same calls, in another order, tell the same.
func TestTheSameCallTellsTheSame(t *testing.T) {
	r := draw(9)
	var calls []told
	for range 1000 {
		l, budget := r.wants(r.below(30), 400*r.below(2)), r.any()
		calls = append(calls, told{budget, l, purse.Split(budget, l)})
	}
	for _, x := range slices.Backward(calls) {
		is(t, x.budget, x.wants, x.gets)
		is(t, x.budget, x.wants, x.gets)
	}
}
