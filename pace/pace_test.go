package pace_test

import (
	"math"
	"slices"
	"testing"

	"girandole/api"
	"girandole/pace"
)

// full is how many may wait.
const full = 2000

// ints are ints at which something turns.
var ints = []int{
	math.MinInt, math.MinInt + 1, math.MinInt32 - 1, math.MinInt32, -api.MaxBudget - 1, -api.MaxBudget, -3, -1, 0, 1, 2, 3, 4, 100, 255, 256,
	api.MaxBudget - 1, api.MaxBudget, api.MaxBudget + 1, math.MaxInt32, math.MaxInt32 + 1, math.MaxUint32, math.MaxUint32 + 1, 1<<48 + 5, math.MaxInt - 1, math.MaxInt,
}

// ids are IDs at which something turns.
var ids = []uint32{0, 1, 2, 255, 256, 65535, 65536, math.MaxInt32, math.MaxInt32 + 1, math.MaxUint32 - 1, math.MaxUint32}

// draw is a run of numbers that is the same each time.
type draw uint32

func (r *draw) next() uint32 {
	*r = *r*1664525 + 1013904223
	return uint32(*r)>>16 | uint32(*r)<<16
}

// below is one from 0 to n - 1.
func (r *draw) below(n int) int { return int(r.next() % uint32(n)) }

// any is any int: a great one, a small one, or one at the ends.
func (r *draw) any() int {
	if r.below(4) == 0 {
		return ints[r.below(len(ints))]
	}
	return int(uint64(r.next())<<32|uint64(r.next())) >> r.below(64)
}

// id is one of a few, now and then the greatest, or any.
func (r *draw) id() uint32 {
	switch r.below(40) {
	case 0:
		return r.next()
	case 1:
		return math.MaxUint32
	}
	return r.next() % 5
}

// item is any of them; now and then one that may not wait.
func (r *draw) item() api.Item {
	i := api.Item{Frame: r.id(), Symbol: r.below(96), Rank: r.below(6) - 1, Bytes: 1 + r.below(100), Deadline: int64(r.below(50))}
	switch r.below(12) {
	case 0:
		i.Bytes = r.any()
	case 1:
		i.Bytes = api.MaxBudget - r.below(200)
	case 2:
		i.Rank, i.Symbol, i.Deadline = r.any(), r.any(), int64(r.any())
	}
	return i
}

func item(frame uint32, symbol, rank, bytes int, deadline int64) api.Item {
	return api.Item{Frame: frame, Symbol: symbol, Rank: rank, Bytes: bytes, Deadline: deadline}
}

// plain is a list of what waits, that does what the chapter's words say, again and again the first one that they are of.
type plain []api.Item

func (l *plain) put(i api.Item) bool {
	if len(*l) >= 2000 || i.Bytes <= 0 || i.Bytes > 65536 {
		return false
	}
	*l = append(*l, i)
	return true
}

// remove takes out the one at that place.
func (l *plain) remove(at int) api.Item {
	i := (*l)[at]
	*l = append(append(plain{}, (*l)[:at]...), (*l)[at+1:]...)
	return i
}

// first is the place of the first one that is so, or below 0.
func (l *plain) first(so func(api.Item) bool) int { return slices.IndexFunc(*l, so) }

func (l *plain) take(frame uint32, most int) (gone []api.Item) {
	for sum := 0; ; {
		at := l.first(func(i api.Item) bool { return i.Frame == frame })
		if at < 0 || sum+(*l)[at].Bytes > most {
			return gone
		}
		sum += (*l)[at].Bytes
		gone = append(gone, l.remove(at))
	}
}

func (l *plain) expire(clock int64) (gone []api.Item) {
	for {
		at := l.first(func(i api.Item) bool { return !(i.Deadline > clock) })
		if at < 0 {
			return gone
		}
		gone = append(gone, l.remove(at))
	}
}

func (l *plain) drop(frame uint32) (n int) {
	for {
		at := l.first(func(i api.Item) bool { return i.Frame == frame })
		if at < 0 {
			return n
		}
		l.remove(at)
		n++
	}
}

func (l *plain) rank(frame uint32, rank int) (n int) {
	for at := range *l {
		if (*l)[at].Frame == frame {
			(*l)[at].Rank = rank
			n++
		}
	}
	return n
}

// want is that of a frame that has some waiting.
func (l *plain) want(frame uint32) api.Want {
	w, some := api.Want{ID: frame}, false
	for _, i := range *l {
		if i.Frame != frame {
			continue
		}
		if !some {
			w.Rank, some = i.Rank, true
		}
		w.Bytes += i.Bytes
	}
	if w.Bytes > 65536 {
		w.Bytes = 65536
	}
	return w
}

// wants puts each want behind all that are told ahead of it.
func (l *plain) wants() (out []api.Want) {
	for at, i := range *l {
		if slices.ContainsFunc((*l)[:at], func(j api.Item) bool { return j.Frame == i.Frame }) {
			continue
		}
		w, place := l.want(i.Frame), 0
		for place < len(out) && (out[place].Rank < w.Rank || out[place].Rank == w.Rank && out[place].ID < w.ID) {
			place++
		}
		out = slices.Insert(out, place, w)
	}
	return out
}

// puts hands items in that may all wait.
func puts(t *testing.T, q *pace.Queue, l ...api.Item) {
	t.Helper()
	for _, i := range l {
		n := q.Len()
		if !q.Put(i) || q.Len() != n+1 {
			t.Fatalf("Put(%+v): no, or %d wait, not %d", i, q.Len(), n+1)
		}
	}
}

// refuses hands in one that may not wait: nothing changes.
func refuses(t *testing.T, q *pace.Queue, i api.Item) {
	t.Helper()
	n, wants := q.Len(), q.Wants()
	if q.Put(i) || q.Len() != n {
		t.Fatalf("Put(%+v): yes, or %d wait, not %d", i, q.Len(), n)
	}
	if l := q.Wants(); !slices.Equal(l, wants) {
		t.Fatalf("Put(%+v): Wants are %v, not %v", i, l, wants)
	}
}

// wants asks for all that is wanted.
func wants(t *testing.T, q *pace.Queue, l ...api.Want) {
	t.Helper()
	if out := q.Wants(); !slices.Equal(out, l) {
		t.Fatalf("Wants: %v, not %v", out, l)
	}
}

// takes asks for what is taken.
func takes(t *testing.T, q *pace.Queue, frame uint32, most int, l ...api.Item) {
	t.Helper()
	n := q.Len()
	if out := q.Take(frame, most); !slices.Equal(out, l) || q.Len() != n-len(l) {
		t.Fatalf("Take(%d, %d): %v, not %v; %d of %d wait", frame, most, out, l, q.Len(), n)
	}
}

// expires asks for what is late.
func expires(t *testing.T, q *pace.Queue, clock int64, l ...api.Item) {
	t.Helper()
	n := q.Len()
	if out := q.Expire(clock); !slices.Equal(out, l) || q.Len() != n-len(l) {
		t.Fatalf("Expire(%d): %v, not %v; %d of %d wait", clock, out, l, q.Len(), n)
	}
}

// drops asks for how many are let go.
func drops(t *testing.T, q *pace.Queue, frame uint32, n int) {
	t.Helper()
	before := q.Len()
	if k := q.Drop(frame); k != n || q.Len() != before-n {
		t.Fatalf("Drop(%d): %d, not %d; %d of %d wait", frame, k, n, q.Len(), before)
	}
}

// ranks asks for how many are ranked anew.
func ranks(t *testing.T, q *pace.Queue, frame uint32, rank, n int) {
	t.Helper()
	before := q.Len()
	if k := q.Rank(frame, rank); k != n || q.Len() != before {
		t.Fatalf("Rank(%d, %d): %d, not %d; %d of %d wait", frame, rank, k, n, q.Len(), before)
	}
}

// empties asks for all that waits, in order, by an Expire at the end of time.
func empties(t *testing.T, q *pace.Queue, l ...api.Item) {
	t.Helper()
	expires(t, q, math.MaxInt64, l...)
	if q.Len() != 0 || len(q.Wants()) != 0 {
		t.Fatalf("%d wait, %v", q.Len(), q.Wants())
	}
}

// holding is a Queue in which just these wait.
func holding(t *testing.T, l ...api.Item) *pace.Queue {
	t.Helper()
	q := pace.New()
	puts(t, q, l...)
	return q
}

// many are n items of frames 0 to 4, in turn.
func many(n int) (l []api.Item) {
	for k := range n {
		l = append(l, item(uint32(k%5), k, k%4, 1+k%7, int64(k)))
	}
	return l
}

// Examples: two items of 10, Take(frame, 15): one.
func TestExample(t *testing.T) {
	a, b := item(3, 0, 0, 10, 5), item(3, 1, 0, 10, 5)
	q := holding(t, a, b)
	takes(t, q, 3, 15, a)
	empties(t, q, b)
}

// P22.1 Put: Bytes from 1 to MaxBudget, whatever the other fields are.
func TestBytesThatMayWait(t *testing.T) {
	for _, bytes := range []int{1, 2, 79, 65534, 65535, 65536} {
		for _, n := range ints {
			for _, id := range ids {
				for _, i := range []api.Item{item(id, n, 0, bytes, 9), item(id, 0, n, bytes, 9), item(id, 0, 0, bytes, int64(n)), item(id, n, n, bytes, int64(n))} {
					q := holding(t, i)
					wants(t, q, api.Want{ID: id, Rank: i.Rank, Bytes: bytes})
					takes(t, q, id, bytes, i)
				}
			}
		}
	}
}

// P22.1 Put: no: Bytes is not from 1 to MaxBudget, whatever the other fields are; what is refused is told by nothing.
func TestBytesThatMayNotWait(t *testing.T) {
	good := item(7, 1, 2, 3, 4)
	for _, bytes := range []int{0, -1, -2, -65535, -65536, -65537, math.MinInt32, math.MinInt + 1, math.MinInt, 65537, 65538, 131072, math.MaxInt32, math.MaxInt32 + 1, 1 << 32, 1<<32 + 1, 1<<48 + 5, math.MaxInt - 1, math.MaxInt} {
		for _, n := range ints {
			for _, id := range ids {
				q := holding(t, good)
				for _, i := range []api.Item{item(id, n, 0, bytes, 9), item(id, 0, n, bytes, 9), item(id, 0, 0, bytes, int64(n)), item(id, n, n, bytes, int64(n))} {
					refuses(t, q, i)
				}
				ranks(t, q, id, 1, 0)
				drops(t, q, id, 0)
				takes(t, q, id, math.MaxInt)
				empties(t, q, good)
			}
		}
	}
}

// P22.1 Put: no: 2,000 wait; none of those beyond them is told by anything.
func TestTwoThousandWait(t *testing.T) {
	l := many(full)
	q := holding(t, l...)
	for _, bytes := range []int{1, 79, 65536, 0, 65537} {
		refuses(t, q, item(1, 7, 0, bytes, 9))
		refuses(t, q, item(99, 7, 0, bytes, math.MaxInt64))
	}
	ranks(t, q, 99, 1, 0)
	drops(t, q, 99, 0)
	takes(t, q, 99, math.MaxInt)
	if q.Len() != full {
		t.Fatalf("%d wait", q.Len())
	}
	empties(t, q, l...)
}

// P22.1 Put: where 1,999 wait one more may; and again, where one of 2,000 waits no more, by whichever call.
func TestOneOfTwoThousandWaitsNoMore(t *testing.T) {
	l := many(full - 1)
	alone := item(50, 1, 2, 30, -5)
	for _, first := range []bool{false, true} {
		for name, leave := range map[string]func(*pace.Queue) int{
			"Take":   func(q *pace.Queue) int { return len(q.Take(50, 30)) },
			"Expire": func(q *pace.Queue) int { return len(q.Expire(-5)) },
			"Drop":   func(q *pace.Queue) int { return q.Drop(50) },
		} {
			q := pace.New()
			if first {
				puts(t, q, alone)
			}
			puts(t, q, l...)
			if !first {
				puts(t, q, alone)
			}
			refuses(t, q, item(51, 1, 0, 1, 9))
			// Neither a Rank, nor a call that lets nobody go, makes room.
			q.Rank(50, 3)
			q.Take(50, 29)
			q.Expire(-6)
			q.Drop(51)
			refuses(t, q, item(51, 1, 0, 1, 9))
			if n := leave(q); n != 1 || q.Len() != full-1 {
				t.Fatalf("%s: %d, and %d wait", name, n, q.Len())
			}
			puts(t, q, item(51, 1, 0, 1, 9))
			refuses(t, q, item(51, 2, 0, 1, 9))
			empties(t, q, append(slices.Clone(l), item(51, 1, 0, 1, 9))...)
		}
	}
}

// P22.1 Put: as many as are let go may come anew, again and again, behind the others.
func TestTwoThousandAgainAndAgain(t *testing.T) {
	q := holding(t, many(full)...)
	for round := range 20 {
		gone := len(q.Take(uint32(round%5), 500)) + len(q.Expire(int64(round*60)))
		if gone == 0 || q.Len() != full-gone {
			t.Fatalf("round %d: %d go, and %d wait", round, gone, q.Len())
		}
		for k := range gone {
			puts(t, q, item(uint32(k%5), k, 0, 5, int64(2000+k)))
		}
		refuses(t, q, item(1, 0, 0, 1, 9))
	}
}

// P22.1 Wants: none of an empty Queue, one that never held anything, one that was emptied, one that refused all.
func TestNothingIsWanted(t *testing.T) {
	q := pace.New()
	wants(t, q)
	q.Put(item(1, 0, 0, 0, 9))
	wants(t, q)
	puts(t, q, item(1, 0, 0, 1, 9))
	takes(t, q, 1, 1, item(1, 0, 0, 1, 9))
	wants(t, q)
	puts(t, q, item(1, 0, 0, 1, 9))
	expires(t, q, 9, item(1, 0, 0, 1, 9))
	wants(t, q)
	puts(t, q, item(1, 0, 0, 1, 9))
	drops(t, q, 1, 1)
	wants(t, q)
}

// P22.1 Wants: the Rank is that of the frame's first one, and of the next, where the first one was taken or was late.
func TestTheRankOfTheFirst(t *testing.T) {
	l := []api.Item{item(4, 0, 3, 10, 5), item(8, 0, 2, 1, 99), item(4, 1, 0, 20, 6), item(4, 2, 1, 40, 99), item(8, 1, -7, 2, 99)}
	for _, expire := range []bool{false, true} {
		q := holding(t, l...)
		wants(t, q, api.Want{ID: 8, Rank: 2, Bytes: 3}, api.Want{ID: 4, Rank: 3, Bytes: 70})
		if expire {
			expires(t, q, 5, l[0])
		} else {
			takes(t, q, 4, 10, l[0])
		}
		wants(t, q, api.Want{ID: 4, Rank: 0, Bytes: 60}, api.Want{ID: 8, Rank: 2, Bytes: 3})
		if expire {
			expires(t, q, 6, l[2])
		} else {
			takes(t, q, 4, 20, l[2])
		}
		wants(t, q, api.Want{ID: 4, Rank: 1, Bytes: 40}, api.Want{ID: 8, Rank: 2, Bytes: 3})
		takes(t, q, 8, 1, l[1])
		wants(t, q, api.Want{ID: 8, Rank: -7, Bytes: 2}, api.Want{ID: 4, Rank: 1, Bytes: 40})
		puts(t, q, item(8, 2, 3, 5, 99), item(4, 3, math.MinInt, 5, 99))
		wants(t, q, api.Want{ID: 8, Rank: -7, Bytes: 7}, api.Want{ID: 4, Rank: 1, Bytes: 45})
	}
}

// P22.1 Wants: a late one behind the first turns the Bytes, not the Rank; one that is dropped and comes anew is ranked by what comes.
func TestTheRankStaysWhileTheFirstDoes(t *testing.T) {
	q := holding(t, item(4, 0, 3, 10, 9), item(4, 1, 0, 20, 5))
	expires(t, q, 5, item(4, 1, 0, 20, 5))
	wants(t, q, api.Want{ID: 4, Rank: 3, Bytes: 10})
	drops(t, q, 4, 1)
	puts(t, q, item(4, 2, 1, 30, 9), item(4, 3, 2, 1, 9))
	wants(t, q, api.Want{ID: 4, Rank: 1, Bytes: 31})
}

// P22.1 Wants: the Bytes of all, MaxBudget at most: one less, as many, one more, much more; each frame has its own.
func TestTheBytesOfAll(t *testing.T) {
	for _, x := range []struct {
		bytes []int
		sum   int
	}{
		{[]int{1}, 1}, {[]int{1, 1}, 2}, {[]int{10, 20, 30}, 60},
		{[]int{65535}, 65535}, {[]int{65536}, 65536}, {[]int{65534, 1}, 65535}, {[]int{65535, 1}, 65536}, {[]int{65535, 2}, 65536}, {[]int{65536, 1}, 65536},
		{[]int{1, 65535}, 65536}, {[]int{1, 65536}, 65536}, {[]int{32768, 32767}, 65535}, {[]int{32768, 32768}, 65536}, {[]int{32768, 32769}, 65536},
		{[]int{65536, 65536}, 65536}, {[]int{65536, 65536, 65536, 1}, 65536}, {slices.Repeat([]int{65536}, 1990), 65536},
		{slices.Repeat([]int{40}, 1638), 65520}, {slices.Repeat([]int{40}, 1639), 65536},
	} {
		q := holding(t, item(6, 0, 1, 5, 9))
		for k, n := range x.bytes {
			puts(t, q, item(7, k, 0, n, 9))
		}
		puts(t, q, item(8, 0, 1, 65536, 9), item(6, 1, 0, 6, 9))
		wants(t, q, api.Want{ID: 7, Rank: 0, Bytes: x.sum}, api.Want{ID: 6, Rank: 1, Bytes: 11}, api.Want{ID: 8, Rank: 1, Bytes: 65536})
	}
}

// P22.1 Wants: what is cut to MaxBudget still waits: it is told once some of it is taken.
func TestTheBytesBeyondTheMost(t *testing.T) {
	q := holding(t, item(7, 0, 0, 60000, 9), item(7, 1, 0, 60000, 9), item(7, 2, 0, 5000, 9))
	wants(t, q, api.Want{ID: 7, Bytes: 65536})
	takes(t, q, 7, 65536, item(7, 0, 0, 60000, 9))
	wants(t, q, api.Want{ID: 7, Bytes: 65000})
	takes(t, q, 7, 65000, item(7, 1, 0, 60000, 9), item(7, 2, 0, 5000, 9))
}

// inAllOrders asks f for each order of l.
func inAllOrders(l []api.Item, f func([]api.Item)) {
	if len(l) == 0 {
		f(nil)
		return
	}
	for at := range l {
		others := slices.Delete(slices.Clone(l), at, at+1)
		inAllOrders(others, func(rest []api.Item) { f(append([]api.Item{l[at]}, rest...)) })
	}
}

// P22.1 Wants: by Rank, then ID, whatever order they were put in.
func TestWantsByRankThenID(t *testing.T) {
	for _, l := range [][]api.Want{
		{{ID: 5, Rank: 0, Bytes: 9}, {ID: 4, Rank: 1, Bytes: 8}, {ID: 3, Rank: 2, Bytes: 7}, {ID: 2, Rank: 3, Bytes: 6}, {ID: 1, Rank: 4, Bytes: 5}},
		{{ID: 9, Rank: math.MinInt, Bytes: 1}, {ID: 0, Rank: -1, Bytes: 2}, {ID: math.MaxUint32, Rank: 0, Bytes: 3}, {ID: 3, Rank: 1, Bytes: 4}, {ID: 1, Rank: math.MaxInt, Bytes: 5}},
		{{ID: 0, Bytes: 3}, {ID: 1, Bytes: 2}, {ID: math.MaxInt32, Bytes: 1}, {ID: math.MaxInt32 + 1, Bytes: 5}, {ID: math.MaxUint32, Bytes: 4}},
		{{ID: 8, Rank: math.MinInt, Bytes: 1}, {ID: 9, Rank: math.MinInt, Bytes: 1}, {ID: 7, Rank: math.MinInt + 1, Bytes: 1}, {ID: 6, Rank: math.MaxInt - 1, Bytes: 1}, {ID: 5, Rank: math.MaxInt, Bytes: 1}},
		{{ID: 2, Rank: 1, Bytes: 5}, {ID: 4, Rank: 1, Bytes: 1}, {ID: 1, Rank: 2, Bytes: 4}, {ID: 3, Rank: 2, Bytes: 2}, {ID: 5, Rank: 2, Bytes: 3}},
		{{ID: 1, Rank: -2, Bytes: 5}, {ID: 2, Rank: -1, Bytes: 5}, {ID: 65536, Rank: -1, Bytes: 5}, {ID: 0, Rank: 256, Bytes: 5}, {ID: 3, Rank: 1 << 32, Bytes: 5}},
	} {
		var items []api.Item
		for _, w := range l {
			items = append(items, item(w.ID, 0, w.Rank, w.Bytes, 9))
		}
		inAllOrders(items, func(order []api.Item) { wants(t, holding(t, order...), l...) })
	}
}

// P22.1 Wants: 2,000 frames of one item each, put in the contrary order.
func TestWantsOfTwoThousandFrames(t *testing.T) {
	q := pace.New()
	var l []api.Want
	for k := range full {
		puts(t, q, item(uint32(full-k), 0, (full-k)/100, 1+k, 9))
		l = append(l, api.Want{ID: uint32(k + 1), Rank: (k + 1) / 100, Bytes: full - k})
	}
	wants(t, q, l...)
	if q.Len() != full {
		t.Fatalf("%d wait", q.Len())
	}
}

// four are items of frame 7, of 10, 20, 5 and 30 Bytes, with others between.
var four = []api.Item{
	item(7, 0, 1, 10, 9), item(3, 0, 0, 1, 9), item(7, 1, 1, 20, 9), item(8, 0, 0, 2, 9), item(7, 2, 2, 5, 8), item(3, 1, 0, 4, 9), item(7, 3, 0, 30, 7), item(8, 1, 3, 3, 9),
}

// P22.1 Take: its items in order, as long as their Bytes are no more than most in all: one less, as many, one more; the others wait as they did.
func TestAsManyAsMostHolds(t *testing.T) {
	for _, x := range []struct{ most, n int }{
		{math.MinInt, 0}, {math.MinInt + 1, 0}, {math.MinInt32, 0}, {-65536, 0}, {-10, 0}, {-1, 0}, {0, 0}, {1, 0}, {5, 0}, {9, 0},
		{10, 1}, {11, 1}, {15, 1}, {29, 1}, {30, 2}, {31, 2}, {34, 2}, {35, 3}, {36, 3}, {64, 3}, {65, 4}, {66, 4}, {1000, 4},
		{65535, 4}, {65536, 4}, {65537, 4}, {math.MaxInt32, 4}, {1 << 32, 4}, {1<<32 + 9, 4}, {1 << 62, 4}, {math.MaxInt - 1, 4}, {math.MaxInt, 4},
	} {
		gone, stay := []api.Item{four[0], four[2], four[4], four[6]}[:x.n], []api.Item{}
		for _, i := range four {
			if !slices.Contains(gone, i) {
				stay = append(stay, i)
			}
		}
		q := holding(t, four...)
		takes(t, q, 7, x.most, gone...)
		empties(t, q, stay...)
	}
}

// P22.1 Take: it ends at the first one that does not fit, though a later one would.
func TestNoneBehindOneThatDoesNotFit(t *testing.T) {
	l := []api.Item{item(7, 0, 0, 10, 9), item(7, 1, 0, 20, 9), item(7, 2, 0, 1, 9), item(7, 3, 0, 65536, 9), item(7, 4, 0, 1, 9)}
	q := holding(t, l...)
	for most := math.MinInt8; most < 10; most++ {
		takes(t, q, 7, most)
	}
	takes(t, q, 7, 29, l[0])
	takes(t, q, 7, 19)
	takes(t, q, 7, 1)
	takes(t, q, 7, 65556, l[1], l[2])
	takes(t, q, 7, 65535)
	takes(t, q, 7, 65536, l[3])
	takes(t, q, 7, 0)
	takes(t, q, 7, 1, l[4])
	takes(t, q, 7, math.MaxInt)
}

// P22.1 Take: each call has its own most: one after the other all are taken, and a frame that has none any more has none.
func TestOneTakeAfterTheOther(t *testing.T) {
	q := holding(t, four...)
	takes(t, q, 7, 10, four[0])
	takes(t, q, 3, 5, four[1], four[5])
	takes(t, q, 7, 25, four[2], four[4])
	takes(t, q, 3, math.MaxInt)
	takes(t, q, 7, 29)
	takes(t, q, 8, 4, four[3])
	takes(t, q, 7, 30, four[6])
	takes(t, q, 8, 3, four[7])
	empties(t, q)
}

// P22.1 Take: of a frame that has none: none, whatever most is.
func TestNoneOfAFrameThatHasNone(t *testing.T) {
	for _, id := range ids {
		for _, most := range ints {
			takes(t, pace.New(), id, most)
			q := holding(t, item(id+1, 0, 0, 1, 9), item(id-1, 0, 0, 1, 9), item(id^1<<31, 0, 0, 1, 9), item(id^1<<16, 0, 0, 1, 9))
			takes(t, q, id, most)
		}
	}
}

// P22.1 Take: all 2,000 of one frame, and their Bytes are many more than MaxBudget.
func TestTakeOfTwoThousand(t *testing.T) {
	l := slices.Repeat([]api.Item{item(9, 4, 1, 65536, 9)}, full)
	q := holding(t, l...)
	takes(t, q, 9, full*65536-1, l[1:]...)
	takes(t, q, 9, 65536, l[0])
	puts(t, q, l...)
	takes(t, q, 9, full*65536, l...)
	puts(t, q, l...)
	takes(t, q, 9, math.MaxInt, l...)
}

// P22.1 Take: items that are alike are each one.
func TestItemsThatAreAlike(t *testing.T) {
	i := item(2, 0, 0, 10, 5)
	q := holding(t, i, i, i, i, i)
	takes(t, q, 2, 25, i, i)
	wants(t, q, api.Want{ID: 2, Bytes: 30})
	expires(t, q, 5, i, i, i)
}

// P22.1 Expire: those whose Deadline is not above clock: one less, as many, one more; of all frames, in order; the others wait as they did.
func TestWhoIsLate(t *testing.T) {
	times := []int64{math.MinInt64, math.MinInt64 + 1, -api.MaxClock, -2, -1, 0, 1, 2, 99, 100, 101, math.MaxInt32, math.MaxInt32 + 1, 1 << 32, api.MaxClock - 1, api.MaxClock, math.MaxInt64 - 1, math.MaxInt64}
	var l []api.Item
	for k := range 3 * len(times) {
		l = append(l, item(uint32(k%4), k, k%3, 1+k, times[k*7%len(times)]))
	}
	for _, clock := range times {
		var gone, stay []api.Item
		for _, i := range l {
			if i.Deadline > clock {
				stay = append(stay, i)
			} else {
				gone = append(gone, i)
			}
		}
		q := holding(t, l...)
		expires(t, q, clock, gone...)
		expires(t, q, clock)
		empties(t, q, stay...)
	}
}

// P22.1 Expire: around each Deadline alone.
func TestAroundADeadline(t *testing.T) {
	for _, n := range ints {
		i := item(1, 2, 3, 4, int64(n))
		q := holding(t, i)
		if n > math.MinInt {
			expires(t, q, int64(n)-1)
			expires(t, q, math.MinInt64)
		}
		expires(t, q, int64(n), i)
		if n < math.MaxInt {
			expires(t, holding(t, i), int64(n)+1, i)
		}
		expires(t, holding(t, i), math.MaxInt64, i)
	}
}

// P22.1 Expire: the clock is not kept: later calls are by their own, and who is put late waits till the next one.
func TestTheClockIsNotKept(t *testing.T) {
	a, b, c := item(1, 0, 0, 1, 5), item(2, 1, 0, 1, 3), item(1, 2, 0, 1, 4)
	q := holding(t, a)
	expires(t, q, 4)
	puts(t, q, b, c)
	expires(t, q, 2)
	expires(t, q, 3, b)
	takes(t, q, 1, 2, a, c)
	expires(t, q, math.MaxInt64)
}

// P22.1 Drop: how many; they wait no more, the others do; of a frame that has none 0.
func TestDrop(t *testing.T) {
	q := holding(t, four...)
	drops(t, q, 9, 0)
	drops(t, q, 7, 4)
	drops(t, q, 7, 0)
	takes(t, q, 7, math.MaxInt)
	wants(t, q, api.Want{ID: 3, Rank: 0, Bytes: 5}, api.Want{ID: 8, Rank: 0, Bytes: 5})
	drops(t, q, 3, 2)
	puts(t, q, four[0])
	empties(t, q, four[3], four[7], four[0])
	for _, id := range ids {
		drops(t, pace.New(), id, 0)
		i, other := item(id, 0, 0, 1, 9), item(id+1, 0, 0, 1, 9)
		q := holding(t, other, i, i, other)
		drops(t, q, id, 2)
		drops(t, q, id, 0)
		empties(t, q, other, other)
	}
	q = holding(t, slices.Repeat(four[:1], full)...)
	drops(t, q, 7, full)
	empties(t, q)
}

// P22.1 Rank: how many; all of that frame have that rank, as they are told by Wants, Take and Expire; the others keep theirs.
func TestRank(t *testing.T) {
	for _, rank := range ints {
		q := holding(t, four...)
		ranks(t, q, 9, rank, 0)
		ranks(t, q, 7, rank, 4)
		for _, w := range q.Wants() {
			if w.ID == 7 && w != (api.Want{ID: 7, Rank: rank, Bytes: 65}) || w.ID != 7 && w.Rank != 0 {
				t.Fatalf("Rank(7, %d): %v", rank, w)
			}
		}
		l := slices.Clone(four)
		for at := range l {
			if l[at].Frame == 7 {
				l[at].Rank = rank
			}
		}
		takes(t, q, 7, 30, l[0], l[2])
		empties(t, q, l[1], l[3], l[4], l[5], l[6], l[7])
		ranks(t, q, 7, rank, 0)
	}
}

// P22.1 Rank: Wants are in the new order; one that is ranked twice has the later rank.
func TestRankTurnsTheOrder(t *testing.T) {
	q := holding(t, item(1, 0, 1, 10, 9), item(2, 0, 2, 20, 9), item(3, 0, 3, 30, 9))
	ranks(t, q, 3, 0, 1)
	wants(t, q, api.Want{ID: 3, Rank: 0, Bytes: 30}, api.Want{ID: 1, Rank: 1, Bytes: 10}, api.Want{ID: 2, Rank: 2, Bytes: 20})
	ranks(t, q, 3, 1, 1)
	wants(t, q, api.Want{ID: 1, Rank: 1, Bytes: 10}, api.Want{ID: 3, Rank: 1, Bytes: 30}, api.Want{ID: 2, Rank: 2, Bytes: 20})
	ranks(t, q, 1, math.MaxInt, 1)
	ranks(t, q, 2, math.MinInt, 1)
	wants(t, q, api.Want{ID: 2, Rank: math.MinInt, Bytes: 20}, api.Want{ID: 3, Rank: 1, Bytes: 30}, api.Want{ID: 1, Rank: math.MaxInt, Bytes: 10})
}

// P22.1 Rank: items that are put later bear their own Rank, and so do those of a frame that was ranked when it had none.
func TestRankIsOfThoseThatWait(t *testing.T) {
	q := pace.New()
	ranks(t, q, 7, 0, 0)
	puts(t, q, item(7, 0, 3, 10, 9))
	wants(t, q, api.Want{ID: 7, Rank: 3, Bytes: 10})
	ranks(t, q, 7, 1, 1)
	puts(t, q, item(7, 1, 2, 10, 9))
	wants(t, q, api.Want{ID: 7, Rank: 1, Bytes: 20})
	takes(t, q, 7, 10, item(7, 0, 1, 10, 9))
	wants(t, q, api.Want{ID: 7, Rank: 2, Bytes: 10})
	empties(t, q, item(7, 1, 2, 10, 9))
}

// P22.1 Len: 0 at first, and how many wait, one by one.
func TestLen(t *testing.T) {
	q := pace.New()
	if q.Len() != 0 {
		t.Fatalf("%d wait", q.Len())
	}
	for n := range full + 5 {
		if q.Len() != min(n, full) {
			t.Fatalf("%d wait, not %d", q.Len(), min(n, full))
		}
		q.Put(item(1, n, 0, 1, 9))
	}
	for n := full; n > 0; n-- {
		if q.Len() != n || len(q.Take(1, 1)) != 1 {
			t.Fatalf("%d wait, not %d", q.Len(), n)
		}
	}
	if q.Len() != 0 {
		t.Fatalf("%d wait", q.Len())
	}
}

// P22.1: of a nil Queue: no, nothing, 0.
func TestNilQueue(t *testing.T) {
	var q *pace.Queue
	for _, n := range ints {
		for _, id := range ids {
			if q.Put(item(id, n, n, 1, int64(n))) || q.Put(item(id, n, n, n, int64(n))) {
				t.Fatalf("Put: yes")
			}
			if l := q.Wants(); l != nil {
				t.Fatalf("Wants: %v", l)
			}
			if l := q.Take(id, n); l != nil {
				t.Fatalf("Take: %v", l)
			}
			if l := q.Expire(int64(n)); l != nil {
				t.Fatalf("Expire: %v", l)
			}
			if k := q.Drop(id) + q.Rank(id, n) + q.Len(); k != 0 {
				t.Fatalf("%d", k)
			}
		}
	}
}

// R1: a Queue that New did not make: no call panics.
func TestQueueThatNewDidNotMake(t *testing.T) {
	for _, call := range []func(*pace.Queue){
		func(q *pace.Queue) { q.Put(item(1, 0, 0, 1, 9)) },
		func(q *pace.Queue) { q.Wants() },
		func(q *pace.Queue) { q.Take(1, 5) },
		func(q *pace.Queue) { q.Expire(9) },
		func(q *pace.Queue) { q.Drop(1) },
		func(q *pace.Queue) { q.Rank(1, 2) },
		func(q *pace.Queue) { q.Len() },
	} {
		call(&pace.Queue{})
		q := new(pace.Queue)
		q.Put(item(1, 0, 0, 1, 9))
		call(q)
	}
}

// 'What follows': nothing that Take answers behind an Expire is late at its clock.
func TestNothingIsSentThatIsLate(t *testing.T) {
	r := draw(3)
	for range 500 {
		q := pace.New()
		for range r.below(200) {
			q.Put(r.item())
		}
		clock := int64(r.below(50))
		if r.below(8) == 0 {
			clock = int64(r.any())
		}
		q.Expire(clock)
		for _, w := range q.Wants() {
			for _, i := range append(q.Take(w.ID, r.below(500)), q.Take(w.ID, math.MaxInt)...) {
				if i.Deadline <= clock {
					t.Fatalf("Expire(%d), Take(%d, ..): %+v", clock, w.ID, i)
				}
			}
		}
		if q.Len() != 0 {
			t.Fatalf("%d are kept back", q.Len())
		}
	}
}

// run does one drawn call on both.
func run(t *testing.T, r *draw, q *pace.Queue, l *plain, puts int) {
	t.Helper()
	frame := r.id()
	switch r.below(6 + puts) {
	case 0:
		wants(t, q, l.wants()...)
	case 1:
		most := r.below(400)
		if r.below(4) == 0 {
			most = r.any()
		}
		takes(t, q, frame, most, l.take(frame, most)...)
	case 2:
		clock := int64(r.below(60) - 15)
		if r.below(30) == 0 {
			clock = int64(r.any())
		}
		expires(t, q, clock, l.expire(clock)...)
	case 3:
		if r.below(4) == 0 {
			drops(t, q, frame, l.drop(frame))
		}
	case 4:
		rank := r.any()
		ranks(t, q, frame, rank, l.rank(frame, rank))
	default:
		i := r.item()
		if yes := l.put(i); q.Put(i) != yes {
			t.Fatalf("Put(%+v): not %v", i, yes)
		}
	}
	if q.Len() != len(*l) {
		t.Fatalf("%d wait, not %d", q.Len(), len(*l))
	}
}

// P22.1: drawn runs of all calls against a plain list, of few that wait and of many.
func TestDrawnRuns(t *testing.T) {
	r := draw(11)
	for round := range 300 {
		q, l := pace.New(), plain{}
		for range 300 {
			run(t, &r, q, &l, 1+round%30)
		}
		empties(t, q, l...)
	}
}

// P22.1: drawn runs around 2,000 that wait.
func TestDrawnRunsOfManyThatWait(t *testing.T) {
	r := draw(12)
	for range 6 {
		q, l := pace.New(), plain{}
		for range 1990 {
			i := r.item()
			i.Frame, i.Deadline = r.next()%200, int64(r.below(4000))
			if l.put(i) != q.Put(i) {
				t.Fatalf("Put(%+v)", i)
			}
		}
		for range 800 {
			run(t, &r, q, &l, 200)
		}
		wants(t, q, l.wants()...)
		empties(t, q, l...)
	}
}

// spoil writes into a list, its spare room too.
func spoil[T any](l []T, x T) {
	l = l[:cap(l)]
	for at := range l {
		l[at] = x
	}
}

// R3: what Wants, Take and Expire answer is new memory: writing into it, its spare room too, turns nothing in the Queue.
func TestAnswersThatAreWrittenTo(t *testing.T) {
	r := draw(21)
	for range 400 {
		q, l := pace.New(), plain{}
		for range 60 {
			i := r.item()
			l.put(i)
			q.Put(i)
			if r.below(5) != 0 {
				continue
			}
			frame, most, clock := r.id(), r.below(300), int64(r.below(20))
			l.take(frame, most)
			spoil(q.Take(frame, most), item(9, 9, 9, 9, 9))
			spoil(q.Wants(), api.Want{ID: 9, Rank: 9, Bytes: 9})
			wants(t, q, l.wants()...)
			l.expire(clock)
			spoil(q.Expire(clock), item(8, 8, 8, 8, 8))
			wants(t, q, l.wants()...)
		}
		empties(t, q, l...)
	}
}

// R3: later calls turn nothing in what was told.
func TestAnswersThatAreKept(t *testing.T) {
	r := draw(22)
	for range 200 {
		q := pace.New()
		var items, asItems [][]api.Item
		var told, asTold [][]api.Want
		keep := func(out []api.Item) {
			items = append(items, out)
			asItems = append(asItems, slices.Clone(out))
		}
		for range 40 {
			for range r.below(20) {
				q.Put(r.item())
			}
			keep(q.Take(r.id(), r.below(400)))
			keep(q.Expire(int64(r.below(12))))
			out := q.Wants()
			told, asTold = append(told, out), append(asTold, slices.Clone(out))
			q.Rank(r.id(), r.any())
			q.Drop(r.id())
		}
		for at := range items {
			if !slices.Equal(items[at], asItems[at]) {
				t.Fatalf("%v became %v", asItems[at], items[at])
			}
		}
		for at := range told {
			if !slices.Equal(told[at], asTold[at]) {
				t.Fatalf("%v became %v", asTold[at], told[at])
			}
		}
	}
}

// R4: a call hangs on what was done to its own Queue: two side by side, one of which is asked between, tell the same.
func TestTwoQueuesSideBySide(t *testing.T) {
	r := draw(31)
	for range 100 {
		q, other, l := pace.New(), pace.New(), plain{}
		for range 200 {
			i := r.item()
			l.put(i)
			q.Put(i)
			if r.below(6) == 0 {
				other.Put(r.item())
				other.Take(r.id(), r.below(300))
				other.Rank(r.id(), 7)
				other.Expire(int64(r.below(10)))
				other.Drop(r.id())
			}
		}
		twin := pace.New()
		for _, i := range l {
			puts(t, twin, i)
		}
		for _, q := range []*pace.Queue{q, twin} {
			wants(t, q, l.wants()...)
			wants(t, q, l.wants()...)
			first, own := plain(slices.Clone(l)), r.id()
			takes(t, q, own, 200, first.take(own, 200)...)
			empties(t, q, first...)
		}
	}
}
