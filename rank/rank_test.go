package rank_test

import (
	"math"
	"reflect"
	"slices"
	"testing"

	"girandole/api"
	"girandole/rank"
)

// kinds are the Kinds that a frame has.
var kinds = []int{api.KindI, api.KindP, api.KindB}

// others are Kinds that no frame has, those among them that fewer bits would take for one that it has.
var others = []int{
	0, 4, 5, 6, 7, 8, 100, 127, 128, 255, 256, 257, 258, 259, 260, 1<<16 + 1, 1<<16 + 2, 1<<16 + 3, 1<<32 + 1, 1<<32 + 2, 1<<32 + 3,
	-1, -2, -3, -4, -253, -254, -255, -256, -65535, math.MaxInt, math.MaxInt - 1, math.MinInt, math.MinInt + 1, math.MinInt + 2, math.MinInt + 3,
}

// ids are some that lie at the ends, and some that fewer bits would take for another.
var ids = []uint32{0, 1, 2, 7, 255, 256, 257, 65535, 65536, 65537, 1<<31 - 1, 1 << 31, 1<<31 + 1, math.MaxUint32 - 1, math.MaxUint32}

// no is what is told where there is no rank.
const no = -1

func of(id uint32, kind int, refs ...uint32) api.Frame {
	return api.Frame{ID: id, Kind: kind, Refs: refs}
}

// line is two I, a P and three B: of the three only 30 is hung on.
func line() []api.Frame {
	return []api.Frame{
		of(10, api.KindI),
		of(20, api.KindP, 10),
		of(30, api.KindB, 10, 20),
		of(40, api.KindB, 20, 30),
		of(50, api.KindI),
		of(60, api.KindB, 50),
	}
}

// is asks for that rank; no: for none.
func is(t *testing.T, known []api.Frame, id uint32, want int) {
	t.Helper()
	r, ok := rank.Of(known, id)
	if want == no && (ok || r != 0) || want != no && (!ok || r != want) {
		t.Errorf("%d among %+v: %d %v, not %d", id, known, r, ok, want)
	}
}

// wanted is what the chapter asks for, gone through from the back, by counting.
func wanted(known []api.Frame, id uint32) int {
	kind, hung := no, map[uint32]int{}
	for i := len(known) - 1; i >= 0; i-- {
		if known[i].ID == id {
			kind = known[i].Kind
		}
		for _, r := range known[i].Refs {
			hung[r]++
		}
	}
	switch {
	case kind == 1:
		return 0
	case kind == 2:
		return 1
	case kind == 3 && hung[id] > 0:
		return 2
	case kind == 3:
		return 3
	}
	return no
}

// Examples: a B alone: RankFree.
func TestExample(t *testing.T) {
	is(t, []api.Frame{of(7, api.KindB)}, 7, api.RankFree)
	is(t, []api.Frame{of(7, api.KindB, 1, 2, 3)}, 7, api.RankFree)
	is(t, []api.Frame{of(0, api.KindB)}, 0, api.RankFree)
}

// P13.1: frames of each Kind, by numbers that were written down ahead.
func TestOrdinaryFrames(t *testing.T) {
	for id, want := range map[uint32]int{10: 0, 20: 1, 30: 2, 40: 3, 50: 0, 60: 3} {
		is(t, line(), id, want)
	}
}

// P13.1: the rank hangs on which of them are known: a B is free till one that hangs on it is.
func TestFramesThatComeOneByOne(t *testing.T) {
	for n := range len(line()) + 1 {
		for i, f := range line() {
			want := []int{api.RankI, api.RankP, api.RankFree, api.RankFree, api.RankI, api.RankFree}[i]
			if i == 2 && n > 3 {
				want = api.RankRef
			}
			if i >= n {
				want = no
			}
			is(t, line()[:n], f.ID, want)
		}
	}
}

// P13.1: no: nobody known has that ID.
func TestNobodyOfThatID(t *testing.T) {
	for _, id := range []uint32{0, 1, 9, 11, 29, 31, 61, 70, 10 + 1<<8, 10 + 1<<16, 10 + 1<<31, math.MaxUint32} {
		is(t, line(), id, no)
	}
}

// P13.1: no: nobody is known, nil and empty alike; what stands behind in the same room does not matter.
func TestNobodyKnown(t *testing.T) {
	for _, none := range [][]api.Frame{nil, {}, line()[:0], line()[3:3]} {
		for _, id := range append([]uint32{10, 20, 30, 40, 50, 60}, ids...) {
			is(t, none, id, no)
		}
	}
}

// P13.1: an ID that stands among Refs but is nobody's: no, however many hang on it.
func TestAnIDThatIsNobodys(t *testing.T) {
	for _, id := range ids {
		for _, kind := range append(slices.Clone(kinds), others...) {
			is(t, []api.Frame{of(99, kind, id)}, id, no)
			is(t, []api.Frame{of(99, kind, id, id), of(100, api.KindB, 99, id)}, id, no)
		}
	}
}

// P13.1: no: the Kind is none, whoever hangs on it.
func TestOtherKinds(t *testing.T) {
	for _, kind := range others {
		for _, id := range ids {
			is(t, []api.Frame{of(id, kind)}, id, no)
			is(t, []api.Frame{of(id, kind, id)}, id, no)
			is(t, []api.Frame{of(99, api.KindB, id), of(id, kind, 99), of(100, api.KindP, id)}, id, no)
		}
	}
	for kind := -300; kind <= 300; kind++ {
		want := no
		if kind >= api.KindI && kind <= api.KindB {
			want = []int{api.RankI, api.RankP, api.RankFree}[kind-1]
		}
		is(t, []api.Frame{of(7, kind)}, 7, want)
	}
}

// P13.1: of several with one ID the first tells the Kind, also where it is none, and a later one's is right.
func TestSeveralWithOneID(t *testing.T) {
	all := append(slices.Clone(kinds), others...)
	for _, first := range all {
		for _, second := range all {
			want := no
			if i := slices.Index(kinds, first); i >= 0 {
				want = []int{api.RankI, api.RankP, api.RankFree}[i]
			}
			is(t, []api.Frame{of(7, first), of(7, second)}, 7, want)
			is(t, []api.Frame{of(7, first), of(7, second), of(7, api.KindI), of(7, api.KindP), of(7, api.KindB)}, 7, want)
			is(t, []api.Frame{of(8, second), of(7, first), of(8, first), of(7, second), of(6, second)}, 7, want)
			if want == api.RankFree {
				want = api.RankRef
			}
			is(t, []api.Frame{of(7, first), of(7, second, 7)}, 7, want)
			is(t, []api.Frame{of(7, first), of(9, api.KindP, 7), of(7, second)}, 7, want)
		}
	}
}

// P13.1: RankRef: a B that one of known hangs on: an earlier one, a later one, itself; of whatever Kind, also of none.
func TestWhoeverHangsOnAB(t *testing.T) {
	for _, id := range ids {
		for _, kind := range append(slices.Clone(kinds), others...) {
			for n := 1; n <= 6; n++ {
				for at := range n {
					for by := range n {
						known := make([]api.Frame, n)
						for i := range known {
							known[i] = of(1000+uint32(i), kind, 1000)
						}
						known[at] = of(id, api.KindB)
						is(t, known, id, api.RankFree)
						known[by].Refs = []uint32{id}
						is(t, known, id, api.RankRef)
					}
				}
			}
		}
	}
}

// P13.1: RankRef: at any place among the Refs, however many they are, and more than once.
func TestAnyPlaceAmongTheRefs(t *testing.T) {
	for _, n := range []int{1, 2, 3, 4, 5, 6, 100} {
		for place := range n {
			refs := make([]uint32, n)
			for i := range refs {
				refs[i] = uint32(5000 + i)
			}
			known := []api.Frame{of(7, api.KindB), of(8, api.KindP, refs...)}
			is(t, known, 7, api.RankFree)
			refs[place] = 7
			is(t, known, 7, api.RankRef)
			refs[0], refs[n-1] = 7, 7
			is(t, known, 7, api.RankRef)
		}
	}
}

// P13.1: RankFree: a B that others don't hang on, though they hang on IDs near to it, or that fewer bits would take for it.
func TestABThatNobodyHangsOn(t *testing.T) {
	for _, id := range ids {
		near := []uint32{id + 1, id - 1, ^id, id + 1<<8, id + 1<<16, id + 1<<31, id - 1<<16}
		is(t, []api.Frame{of(id, api.KindB, near...), of(id+5, api.KindP, near...), of(id, api.KindI, near...)}, id, api.RankFree)
	}
}

// P13.1: what stands behind the Refs, or behind the known ones, in the same room hangs on nobody.
func TestWhatStandsBehind(t *testing.T) {
	room := []uint32{1, 2, 7, 7}
	is(t, []api.Frame{of(7, api.KindB), of(8, api.KindP, room[:2]...)}, 7, api.RankFree)
	is(t, []api.Frame{of(7, api.KindB), {ID: 8, Kind: api.KindP, Refs: room[2:2]}}, 7, api.RankFree)
	is(t, []api.Frame{of(7, api.KindB), {ID: 8, Kind: api.KindP, Refs: room[:3]}}, 7, api.RankRef)
	known := []api.Frame{of(7, api.KindB), of(8, api.KindP, 7)}
	is(t, known, 7, api.RankRef)
	is(t, known[:1], 7, api.RankFree)
	is(t, known[:1], 8, no)
	is(t, known[1:], 7, no)
	is(t, known[1:], 8, api.RankP)
}

// P13.1: an I and a P stay what they are, whoever hangs on them and whomever they hang on.
func TestAnIAndAPThatOthersHangOn(t *testing.T) {
	for _, id := range ids {
		for kind, want := range map[int]int{api.KindI: api.RankI, api.KindP: api.RankP} {
			for _, by := range append(slices.Clone(kinds), others...) {
				is(t, []api.Frame{of(id, kind)}, id, want)
				is(t, []api.Frame{of(id, kind, id)}, id, want)
				is(t, []api.Frame{of(99, by, id), of(id, kind, 99, 3), of(100, by, 3, id)}, id, want)
			}
		}
	}
}

// P13.1: nothing but ID, Kind and Refs is asked for.
func TestWhatElseAFrameIs(t *testing.T) {
	known := line()
	for i := range known {
		known[i].Size, known[i].Play, known[i].Deadline = math.MinInt+i, math.MaxInt64-int64(i), math.MinInt64+int64(i)
	}
	for _, f := range known {
		is(t, known, f.ID, wanted(line(), f.ID))
	}
}

// P13.1: many known ones: the one that is asked for, and who hangs on it, at any place among them.
func TestManyKnownOnes(t *testing.T) {
	for _, n := range []int{api.MaxFrames, api.MaxFrames + 1, 300} {
		known := make([]api.Frame, n)
		for i := range known {
			known[i] = of(uint32(i), api.KindB, uint32(n+i))
		}
		for i := range known {
			is(t, known, uint32(i), api.RankFree)
			known[n-1-i].Refs[0] = uint32(i)
			is(t, known, uint32(i), api.RankRef)
			known[n-1-i].Refs[0] = uint32(n)
		}
	}
	known := make([]api.Frame, 1<<16)
	for i := range known {
		known[i] = of(uint32(i+1), api.KindB)
	}
	is(t, known, 1<<16, api.RankFree)
	is(t, known, 0, no)
	known[1<<15].Refs = make([]uint32, 1<<20)
	known[1<<15].Refs[1<<20-1] = 1 << 16
	is(t, known, 1<<16, api.RankRef)
}

// draw is a run of numbers that is the same each time.
type draw uint32

func (r *draw) below(n uint32) uint32 {
	*r = *r*1664525 + 1013904223
	return uint32(*r>>8) % n
}

// known is some frames with few IDs, so that they often meet.
func (r *draw) known() []api.Frame {
	var l []api.Frame
	for range r.below(9) {
		f := of(r.below(8), int(1+r.below(3)))
		if r.below(8) == 0 {
			f.Kind = others[r.below(uint32(len(others)))]
		}
		for range r.below(4) {
			f.Refs = append(f.Refs, r.below(12))
		}
		l = append(l, f)
	}
	return l
}

// P13.1: what the chapter asks for, over many drawn calls; each answer comes up often.
func TestDrawnCalls(t *testing.T) {
	r, seen := draw(13), map[int]int{}
	for range 200000 {
		known, id := r.known(), r.below(9)
		want := wanted(known, id)
		seen[want]++
		if is(t, known, id, want); t.Failed() {
			return
		}
	}
	for _, x := range []int{no, api.RankI, api.RankP, api.RankRef, api.RankFree} {
		if seen[x] < 1000 {
			t.Errorf("%d: %d times: too few to tell", x, seen[x])
		}
	}
}

// 'What follows': who is hung on matters more: no B of one crowd that is hung on is worse than one that is not.
func TestWhoIsHungOnMattersMore(t *testing.T) {
	for _, free := range []uint32{0, 7, math.MaxUint32} {
		for _, hung := range []uint32{1, 8, math.MaxUint32 - 1} {
			known := []api.Frame{of(free, api.KindB), of(hung, api.KindB), of(100, api.KindB, hung)}
			f, _ := rank.Of(known, free)
			h, _ := rank.Of(known, hung)
			a, b := api.Want{ID: free, Rank: f}, api.Want{ID: hung, Rank: h}
			if !rank.Worse(a, b) || rank.Worse(b, a) {
				t.Errorf("%+v, %+v", a, b)
			}
		}
	}
}

// worse asks for that answer.
func worse(t *testing.T, a, b api.Want, want bool) {
	t.Helper()
	if rank.Worse(a, b) != want {
		t.Errorf("%+v worse than %+v: not %v", a, b, want)
	}
}

// P13.1: Worse, by answers that were written down ahead.
func TestWorse(t *testing.T) {
	for _, x := range []struct {
		a, b api.Want
		want bool
	}{
		{api.Want{ID: 1, Rank: api.RankP}, api.Want{ID: 1, Rank: api.RankI}, true},
		{api.Want{ID: 1, Rank: api.RankI}, api.Want{ID: 1, Rank: api.RankP}, false},
		{api.Want{ID: 1, Rank: api.RankFree}, api.Want{ID: 9, Rank: api.RankRef}, true},
		{api.Want{ID: 9, Rank: api.RankRef}, api.Want{ID: 1, Rank: api.RankFree}, false},
		{api.Want{ID: 0, Rank: api.RankFree}, api.Want{ID: math.MaxUint32, Rank: api.RankI}, true},
		{api.Want{ID: math.MaxUint32, Rank: api.RankI}, api.Want{ID: 0, Rank: api.RankFree}, false},
		{api.Want{ID: 9, Rank: api.RankP}, api.Want{ID: 8, Rank: api.RankP}, true},
		{api.Want{ID: 8, Rank: api.RankP}, api.Want{ID: 9, Rank: api.RankP}, false},
		{api.Want{ID: 8, Rank: api.RankP}, api.Want{ID: 8, Rank: api.RankP}, false},
		// IDs don't go round.
		{api.Want{ID: math.MaxUint32}, api.Want{ID: 0}, true},
		{api.Want{ID: 0}, api.Want{ID: math.MaxUint32}, false},
		{api.Want{ID: 1 << 31}, api.Want{ID: 1<<31 - 1}, true},
		{api.Want{ID: 1<<31 - 1}, api.Want{ID: 1 << 31}, false},
		{api.Want{Rank: 0}, api.Want{Rank: -1}, true},
		{api.Want{Rank: -1}, api.Want{Rank: 0}, false},
		// The difference of these is beyond their type.
		{api.Want{Rank: math.MaxInt}, api.Want{Rank: math.MinInt}, true},
		{api.Want{Rank: math.MinInt}, api.Want{Rank: math.MaxInt}, false},
		{api.Want{Rank: math.MaxInt}, api.Want{Rank: -1}, true},
		{api.Want{Rank: math.MinInt}, api.Want{Rank: 1}, false},
		{api.Want{}, api.Want{}, false},
	} {
		worse(t, x.a, x.b, x.want)
	}
}

// P13.1: Worse: the greater Rank, whatever the IDs are; of one Rank the greater ID; Bytes say nothing in it.
func TestWorseOfEachTwo(t *testing.T) {
	var rising []api.Want
	for _, r := range []int{math.MinInt, math.MinInt + 1, -1 << 32, -65536, -2, -1, 0, 1, 2, 3, 4, 255, 256, 65536, 1 << 32, 1<<32 + 1, math.MaxInt - 1, math.MaxInt} {
		for _, id := range ids {
			rising = append(rising, api.Want{ID: id, Rank: r})
		}
	}
	bytes := []int{0, 1, -1, 5, api.MaxBytes, math.MaxInt, math.MinInt}
	for i, a := range rising {
		for j, b := range rising {
			worse(t, a, b, i > j)
			a.Bytes, b.Bytes = bytes[(i+j)%7], bytes[(2*i+3*j)%7]
			worse(t, a, b, i > j)
		}
	}
	for _, x := range bytes {
		for _, y := range bytes {
			worse(t, api.Want{ID: 7, Rank: 2, Bytes: x}, api.Want{ID: 7, Rank: 2, Bytes: y}, false)
			worse(t, api.Want{ID: 8, Rank: 2, Bytes: x}, api.Want{ID: 7, Rank: 2, Bytes: y}, true)
			worse(t, api.Want{ID: 8, Rank: 1, Bytes: x}, api.Want{ID: 7, Rank: 2, Bytes: y}, false)
		}
	}
}

// roomy is l in a longer room, each one's Refs in longer rooms too, and that room: what stands ahead and behind would tell otherwise.
func roomy(l []api.Frame) (known, room []api.Frame) {
	room = append(append([]api.Frame{of(10, api.KindB, 40)}, l...), of(70, api.KindB, 40, 60), of(70, api.KindI))
	for i, f := range room {
		room[i].Refs = append(slices.Clone(f.Refs), 40, 60, 7)[:len(f.Refs)]
	}
	return room[1 : 1+len(l)], room
}

// state is a copy of all that stands in the room, and behind each one's Refs.
func state(room []api.Frame) (l []api.Frame, refs [][]uint32) {
	l = slices.Clone(room)
	for i, f := range room {
		l[i].Refs = slices.Clone(f.Refs)
		refs = append(refs, slices.Clone(f.Refs[:cap(f.Refs)]))
	}
	return l, refs
}

// R3: what is handed in is left as it was, and what stands ahead of it and behind it in the same room too.
func TestWhatIsHandedInIsLeftAsItWas(t *testing.T) {
	for _, l := range [][]api.Frame{line(), {}, {of(10, 9), of(10, api.KindB, 10)}, {of(40, api.KindB), of(30, 0, 20), of(20, -1, 30)}} {
		known, room := roomy(l)
		was, refsWere := state(room)
		for _, id := range []uint32{0, 7, 10, 20, 30, 40, 50, 60, 70, math.MaxUint32} {
			is(t, known, id, wanted(l, id))
			if now, refs := state(room); !reflect.DeepEqual(now, was) || !reflect.DeepEqual(refs, refsWere) {
				t.Fatalf("%d: %+v was changed: %+v", id, was, now)
			}
		}
	}
}

// R3: what was handed in is not kept: who turns it later is answered by what it is then.
func TestWhatIsHandedInIsNotKept(t *testing.T) {
	known := line()
	is(t, known, 30, api.RankRef)
	known[3].Refs[1] = 31
	is(t, known, 30, api.RankFree)
	is(t, line(), 30, api.RankRef)
	known[2].Kind = api.KindP
	is(t, known, 30, api.RankP)
	known[2].Kind = 0
	is(t, known, 30, no)
	known[2].ID = 31
	known[2].Kind = api.KindB
	is(t, known, 30, no)
	is(t, known, 31, api.RankRef)
	clear(known)
	is(t, known, 31, no)
	is(t, line(), 30, api.RankRef)
}

// R3: frames that share one list of Refs are asked like others.
func TestRefsThatAreShared(t *testing.T) {
	refs := []uint32{20, 30}
	known := []api.Frame{of(20, api.KindB), of(30, api.KindB), of(40, api.KindB)}
	for i := range known {
		known[i].Refs = refs
	}
	is(t, known, 20, api.RankRef)
	is(t, known, 30, api.RankRef)
	is(t, known, 40, api.RankFree)
}

// R4, W6: a call answers the same, whatever was asked between.
func TestCallsAreTheSameEachTime(t *testing.T) {
	r := draw(4)
	for range 200 {
		for id, want := range map[uint32]int{10: 0, 20: 1, 30: 2, 40: 3, 50: 0, 60: 3, 70: no} {
			is(t, line(), id, want)
			rank.Of(r.known(), r.below(9))
		}
	}
}

// R1: zero values.
func TestZeroValues(t *testing.T) {
	is(t, nil, 0, no)
	is(t, []api.Frame{{}}, 0, no)
	is(t, make([]api.Frame, 200), 0, no)
	is(t, []api.Frame{{Kind: api.KindI}}, 0, api.RankI)
	is(t, []api.Frame{{Kind: api.KindB, Refs: make([]uint32, 1)}}, 0, api.RankRef)
	is(t, []api.Frame{{}, {Kind: api.KindI}}, 0, no)
}
