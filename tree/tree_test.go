package tree_test

import (
	"math"
	"reflect"
	"runtime/debug"
	"slices"
	"strconv"
	"strings"
	"testing"

	"girandole/api"
	"girandole/tree"
)

// ids are some that lie at the ends, and some that fewer bits would take for another; they rise.
var ids = []uint32{0, 1, 2, 7, 255, 256, 257, 65535, 65536, 65537, 1<<31 - 1, 1 << 31, 1<<31 + 1, math.MaxUint32 - 1, math.MaxUint32}

func of(id uint32, refs ...uint32) api.Frame {
	kind := api.KindP
	if len(refs) == 0 {
		kind = api.KindI
	}
	return api.Frame{ID: id, Kind: kind, Refs: refs}
}

// picture is two I and those that hang on them: 40 by two ways on 10, 50 on 10 and 20 together.
func picture() []api.Frame {
	return []api.Frame{
		of(10),
		of(20),
		of(30, 10),
		of(32, 10),
		of(40, 32, 30),
		of(50, 40, 20),
		of(60),
		of(70, 60),
	}
}

// above asks for those, rising.
func above(t *testing.T, known []api.Frame, id uint32, want ...uint32) {
	t.Helper()
	if l := tree.Above(known, id); !slices.Equal(l, want) {
		t.Errorf("above %d: %s, not %s", id, short(l), short(want))
	}
}

// below asks for those, rising.
func below(t *testing.T, known []api.Frame, id uint32, want ...uint32) {
	t.Helper()
	if l := tree.Below(known, id); !slices.Equal(l, want) {
		t.Errorf("below %d: %s, not %s", id, short(l), short(want))
	}
}

// Examples: of a P on an I: Above: the I.
func TestExample(t *testing.T) {
	known := []api.Frame{of(1), of(2, 1)}
	above(t, known, 2, 1)
	above(t, known, 1)
	below(t, known, 1, 2)
	below(t, known, 2)
}

// P14.1: answers that were written down ahead: directly, by others, by two ways.
func TestOrdinaryFrames(t *testing.T) {
	for id, want := range map[uint32][2][]uint32{
		10: {nil, {30, 32, 40, 50}},
		20: {nil, {50}},
		30: {{10}, {40, 50}},
		32: {{10}, {40, 50}},
		40: {{10, 30, 32}, {50}},
		50: {{10, 20, 30, 32, 40}, nil},
		60: {nil, {70}},
		70: {{60}, nil},
	} {
		above(t, picture(), id, want[0]...)
		below(t, picture(), id, want[1]...)
	}
}

// P14.1: of known alone: as they come one by one, who is below grows, who is above stays.
func TestFramesThatComeOneByOne(t *testing.T) {
	all := picture()
	for n := range len(all) + 1 {
		var under []uint32
		for _, f := range all[:n] {
			if slices.Contains([]uint32{30, 32, 40, 50}, f.ID) {
				under = append(under, f.ID)
			}
		}
		below(t, all[:n], 10, under...)
		if n >= 5 {
			above(t, all[:n], 40, 10, 30, 32)
		} else {
			above(t, all[:n], 40)
		}
	}
}

// P14.1: rising and each once, in whatever order the Refs stand, and how often.
func TestRefsThatDoNotRise(t *testing.T) {
	for _, refs := range [][]uint32{{1, 2, 3}, {1, 3, 2}, {2, 1, 3}, {2, 3, 1}, {3, 1, 2}, {3, 2, 1}, {3, 3, 1, 2}, {2, 1, 2, 3, 3, 1}} {
		known := []api.Frame{of(1), of(2), of(3), of(9, refs...)}
		above(t, known, 9, 1, 2, 3)
		for id := range uint32(3) {
			below(t, known, id+1, 9)
		}
	}
}

// P14.1: each once, where many ways lead to the same one: each layer of two hangs on both of the one ahead.
func TestManyWaysToTheSameOne(t *testing.T) {
	known := []api.Frame{of(0), of(1)}
	all := []uint32{0, 1}
	for i := uint32(2); i < 80; i += 2 {
		known = append(known, of(i, i-1, i-2), of(i+1, i-2, i-1))
		all = append(all, i, i+1)
	}
	for i := range all {
		above(t, known, all[i], all[:i&^1]...)
		below(t, known, all[i], all[i|1:][1:]...)
	}
}

// P14.1: where the way is long: each one is on it, and the one asked for is not.
func TestALongWay(t *testing.T) {
	for _, n := range []int{1, 2, api.MaxFrames - 1, api.MaxFrames, api.MaxFrames + 1, api.MaxFrames + 2, 2*api.MaxFrames + 1, 1000} {
		known, all := chain(n)
		for i, id := range all {
			above(t, known, id, all[:i]...)
			below(t, known, id, all[i+1:]...)
		}
	}
}

// P14.1: several long ways, from one and to one: none of them is left where it is.
func TestSeveralLongWays(t *testing.T) {
	for _, ways := range []int{2, 3, api.MaxRefs} {
		for _, long := range []int{api.MaxFrames / 2, api.MaxFrames, api.MaxFrames + 1, 3 * api.MaxFrames} {
			known, all := []api.Frame{of(0)}, []uint32{0}
			for i := range long * ways {
				id := uint32(i + 1)
				known, all = append(known, of(id, all[max(len(all)-ways, 0)])), append(all, id)
			}
			last := len(all)
			all = append(all, uint32(last))
			known = append(known, of(uint32(last), all[last-ways:last]...))
			above(t, known, all[last], all[:last]...)
			below(t, known, all[0], all[1:]...)
		}
	}
}

// chain is n frames, each on the one ahead, and their IDs.
func chain(n int) (known []api.Frame, all []uint32) {
	known, all = make([]api.Frame, n), make([]uint32, n)
	refs := make([]uint32, n)
	for i := range known {
		all[i] = uint32(2*i + 1)
		known[i].ID = all[i]
		if i > 0 {
			refs[i] = all[i-1]
			known[i].Refs = refs[i : i+1]
		}
	}
	return known, all
}

// R1: a way that is far longer than the stack may be deep: the call ends, and tells all of it.
func TestAWayThatIsLongerThanTheStack(t *testing.T) {
	was := debug.SetMaxStack(1 << 23)
	defer debug.SetMaxStack(was)
	known, all := chain(1 << 19)
	last := len(all) - 1
	above(t, known, all[last], all[:last]...)
	below(t, known, all[0], all[1:]...)
	above(t, known, all[last/2], all[:last/2]...)
	below(t, known, all[last/2], all[last/2+1:]...)
	// Round: the first one hangs on the last one.
	known[0].Refs = []uint32{all[last]}
	above(t, known, all[0], all[1:]...)
	below(t, known, all[last], all[:last]...)
}

// P14.1: Refs that are nobody's among known are left out, and lead to nobody; nobody is below them.
func TestRefsThatAreNobodys(t *testing.T) {
	known := []api.Frame{of(5, 1), of(7, 5, 6), of(9, 8, 3, 7, 300)}
	above(t, known, 5)
	above(t, known, 7, 5)
	above(t, known, 9, 5, 7)
	below(t, known, 5, 7, 9)
	below(t, known, 7, 9)
	for _, id := range []uint32{1, 3, 6, 8, 300} {
		above(t, known, id)
		below(t, known, id)
	}
	// Near to a known one, or one that fewer bits would take for it, is not it.
	for _, id := range ids {
		for _, near := range []uint32{id + 1, id - 1, ^id, id + 1<<8, id + 1<<16, id + 1<<31, id - 1<<16} {
			other := id/2 + 3
			if other == id || other == near {
				other += 5
			}
			known := []api.Frame{of(id), of(other, near)}
			above(t, known, other)
			below(t, known, id)
			above(t, known, near)
			below(t, known, near)
		}
	}
}

// P14.1: an ID that nobody known has: none.
func TestNobodyOfThatID(t *testing.T) {
	for _, id := range []uint32{0, 1, 9, 11, 31, 71, 10 + 1<<8, 10 + 1<<16, 50 + 1<<16, 10 + 1<<31, math.MaxUint32} {
		above(t, picture(), id)
		below(t, picture(), id)
	}
}

// P14.1: nobody is known, nil and empty alike; what stands behind in the same room does not matter.
func TestNobodyKnown(t *testing.T) {
	for _, none := range [][]api.Frame{nil, {}, picture()[:0], picture()[3:3], make([]api.Frame, 0, 9)} {
		for _, id := range append([]uint32{10, 20, 30, 40, 50, 60, 70}, ids...) {
			above(t, none, id)
			below(t, none, id)
		}
	}
}

// P14.1: an I: none above it, though others hang on it; alone: none below it either.
func TestAnI(t *testing.T) {
	for _, id := range ids {
		for _, refs := range [][]uint32{nil, {}, ids[3:3]} {
			i := api.Frame{ID: id, Kind: api.KindI, Refs: refs}
			above(t, []api.Frame{i}, id)
			below(t, []api.Frame{i}, id)
			known := []api.Frame{i, of(100, id), of(101, id, 100)}
			above(t, known, id)
			below(t, known, id, 100, 101)
		}
	}
}

// P14.1: who hangs on whom is a matter of ID and Refs alone.
func TestWhatElseAFrameIs(t *testing.T) {
	for _, kind := range []int{api.KindI, api.KindP, api.KindB, 0, 4, -1, math.MaxInt, math.MinInt} {
		known := picture()
		for i := range known {
			known[i].Kind, known[i].Size, known[i].Play, known[i].Deadline = kind, math.MinInt+i, math.MaxInt64-int64(i), math.MinInt64+int64(i)
		}
		for _, f := range known {
			above(t, known, f.ID, wantedAbove(picture(), f.ID)...)
			below(t, known, f.ID, wantedBelow(picture(), f.ID)...)
		}
	}
}

// P14.1: the IDs 0 and the greatest one, and those between that fewer bits would take for another.
func TestIDsAtTheEnds(t *testing.T) {
	known := []api.Frame{of(0), of(math.MaxUint32, 0)}
	above(t, known, math.MaxUint32, 0)
	below(t, known, 0, math.MaxUint32)
	above(t, known, 0)
	below(t, known, math.MaxUint32)
	line := make([]api.Frame, len(ids))
	for i, id := range ids {
		line[i] = of(id, ids[max(i-1, 0):i]...)
	}
	star := make([]api.Frame, len(ids))
	for i, id := range ids {
		star[i] = of(id, ids[:min(i, 1)]...)
	}
	for i, id := range ids {
		above(t, line, id, ids[:i]...)
		below(t, line, id, ids[i+1:]...)
		above(t, star, id, ids[:min(i, 1)]...)
	}
	below(t, star, 0, ids[1:]...)
}

// P14.1: as many known ones as the document's limit, each with as many Refs: on all ahead by the four nearest, by the four first.
func TestAsManyAsMayBe(t *testing.T) {
	near, first := make([]api.Frame, api.MaxFrames), make([]api.Frame, api.MaxFrames)
	all := make([]uint32, api.MaxFrames)
	for i := range all {
		all[i] = uint32(i * 40000000)
		near[i] = of(all[i], all[max(i-api.MaxRefs, 0):i]...)
		first[i] = of(all[i], all[:min(i, api.MaxRefs)]...)
	}
	for i, id := range all {
		above(t, near, id, all[:i]...)
		below(t, near, id, all[i+1:]...)
		above(t, first, id, all[:min(i, api.MaxRefs)]...)
		if i < api.MaxRefs {
			below(t, first, id, all[i+1:]...)
		} else {
			below(t, first, id)
		}
	}
}

// P14.1: far more known ones, and far more Refs.
func TestFarMore(t *testing.T) {
	n := 1 << 16
	all := make([]uint32, n)
	known := make([]api.Frame, n)
	for i := range known {
		all[i] = uint32(i)
		known[i] = api.Frame{ID: all[i], Refs: all[i/2 : i/2+min(i, 1)]}
	}
	known[n-1].Refs = all[:n-1]
	below(t, known, 0, all[1:]...)
	above(t, known, uint32(n-1), all[:n-1]...)
	below(t, known, uint32(n-1))
	above(t, known, 1<<15+5, wantedAbove(known, 1<<15+5)...)
}

// joined is known as a table, reckoned by joining ways till none is new: over[a][b]: a hangs on b.
func joined(known []api.Frame) map[uint32]map[uint32]bool {
	over := map[uint32]map[uint32]bool{}
	for i := len(known) - 1; i >= 0; i-- {
		over[known[i].ID] = map[uint32]bool{}
		for _, r := range known[i].Refs {
			over[known[i].ID][r] = true
		}
	}
	for by := range over {
		for a := range over {
			if over[a][by] {
				for b := range over[by] {
					over[a][b] = true
				}
			}
		}
	}
	return over
}

// wantedAbove is what the chapter asks for, by a sweep over all of known till nothing is new.
func wantedAbove(known []api.Frame, id uint32) []uint32 {
	first := map[uint32][]uint32{}
	for i := len(known) - 1; i >= 0; i-- {
		first[known[i].ID] = known[i].Refs
	}
	got := map[uint32]bool{id: true}
	for was := 0; was < len(got); {
		was = len(got)
		for a := range got {
			for _, r := range first[a] {
				if _, ok := first[r]; ok {
					got[r] = true
				}
			}
		}
	}
	return told(got, id)
}

// wantedBelow is what the chapter asks for, by joining ways.
func wantedBelow(known []api.Frame, id uint32) []uint32 {
	over, got := joined(known), map[uint32]bool{}
	for a := range over {
		if over[id] != nil && over[a][id] {
			got[a] = true
		}
	}
	return told(got, id)
}

func told(got map[uint32]bool, but uint32) []uint32 {
	var l []uint32
	for id := range got {
		if id != but {
			l = append(l, id)
		}
	}
	slices.Sort(l)
	return l
}

// draw is a run of numbers that is the same each time.
type draw uint32

func (r *draw) below(n uint32) uint32 {
	*r = *r*1664525 + 1013904223
	return uint32(*r>>8) % n
}

// known is some frames whose IDs rise and whose Refs are below; some of the Refs are nobody's.
func (r *draw) known() []api.Frame {
	var l []api.Frame
	id := r.below(3)
	for range r.below(14) {
		f := api.Frame{ID: id}
		for range r.below(api.MaxRefs + 1) {
			if id > 0 {
				f.Refs = append(f.Refs, r.below(id))
			}
		}
		l = append(l, f)
		id += 1 + r.below(2)
	}
	return l
}

// wild is some frames that are neither in order nor of different IDs, with Refs to whomever.
func (r *draw) wild() []api.Frame {
	l := make([]api.Frame, r.below(12))
	for i := range l {
		l[i].ID = r.below(10)
		for range r.below(4) {
			l[i].Refs = append(l[i].Refs, r.below(12))
		}
	}
	return l
}

// P14.1: what the chapter asks for, over many drawn crowds, against two other reckonings; and rising strictly.
func TestDrawnCrowds(t *testing.T) {
	r, seen := draw(14), map[int]int{}
	for i := range 40000 {
		known := r.known()
		if i%2 == 1 {
			known = r.wild() // Beyond the chapter's limits; its words are taken there all the same.
		}
		id := r.below(16)
		over, under := wantedAbove(known, id), wantedBelow(known, id)
		seen[len(over)]++
		seen[-len(under)]++
		above(t, known, id, over...)
		if below(t, known, id, under...); t.Failed() {
			t.Fatalf("%+v", known)
		}
	}
	for n := -5; n <= 5; n++ {
		if seen[n] < 200 {
			t.Errorf("%d of them: %d times: too few to tell", n, seen[n])
		}
	}
}

// 'What follows': one is above another just if that one is below it, over all pairs of many drawn crowds.
func TestBothSidesTellAlike(t *testing.T) {
	r, pairs := draw(5), 0
	for i := range 4000 {
		known := r.known()
		if i%4 == 3 {
			known = r.wild()
		}
		var over, under [32][]uint32
		for id := range over {
			over[id], under[id] = tree.Above(known, uint32(id)), tree.Below(known, uint32(id))
		}
		for a := range over {
			for b := range over {
				up, down := slices.Contains(over[a], uint32(b)), slices.Contains(under[b], uint32(a))
				if up != down {
					t.Fatalf("%d above %d: %v, %d below %d: %v: %+v", b, a, up, a, b, down, known)
				}
				if up {
					pairs++
				}
			}
		}
	}
	if pairs < 10000 {
		t.Errorf("%d pairs: too few to tell", pairs)
	}
}

// P14.1: never its own, and whoever is above one that is above it is above it.
func TestWaysThatAreJoined(t *testing.T) {
	r := draw(6)
	for range 3000 {
		known := r.known()
		for _, f := range known {
			over, under := tree.Above(known, f.ID), tree.Below(known, f.ID)
			for _, a := range over {
				if a >= f.ID || !subset(tree.Above(known, a), over) {
					t.Fatalf("%d, %d: %+v", f.ID, a, known)
				}
			}
			for _, b := range under {
				if b <= f.ID || !subset(tree.Below(known, b), under) {
					t.Fatalf("%d, %d: %+v", f.ID, b, known)
				}
			}
		}
	}
}

func subset(small, great []uint32) bool {
	return !slices.ContainsFunc(small, func(x uint32) bool { return !slices.Contains(great, x) })
}

// R1: one that hangs on itself: the call ends; its own is not told.
func TestOneThatHangsOnItself(t *testing.T) {
	for _, id := range ids {
		above(t, []api.Frame{of(id, id)}, id)
		below(t, []api.Frame{of(id, id)}, id)
	}
	known := []api.Frame{of(1), of(2, 2, 1), of(3, 2, 3)}
	above(t, known, 2, 1)
	above(t, known, 3, 1, 2)
	below(t, known, 2, 3)
	below(t, known, 1, 2, 3)
	below(t, known, 3)
}

// R1: some that hang on each other, and Refs of later ones: the call ends.
func TestSomeThatHangOnEachOther(t *testing.T) {
	two := []api.Frame{of(1, 2), of(2, 1)}
	above(t, two, 1, 2)
	above(t, two, 2, 1)
	below(t, two, 1, 2)
	below(t, two, 2, 1)
	for _, n := range []int{3, 10, api.MaxFrames, api.MaxFrames + 1, 350} {
		known, all := chain(n)
		known[0].Refs = all[n-1:]
		for i, id := range all {
			others := slices.Delete(slices.Clone(all), i, i+1)
			above(t, known, id, others...)
			below(t, known, id, others...)
		}
	}
	later := []api.Frame{of(1, 2, 4), of(2, 3), of(3), of(4, 3)}
	above(t, later, 1, 2, 3, 4)
	below(t, later, 3, 1, 2, 4)
	// Each on each, itself too.
	all := make([]uint32, 200)
	known := make([]api.Frame, 200)
	for i := range known {
		all[i] = uint32(i)
		known[i] = api.Frame{ID: uint32(i), Refs: all}
	}
	above(t, known, 0, all[1:]...)
	below(t, known, 199, all[:199]...)
}

// R1: IDs that don't rise: the call ends; what it tells rises all the same.
func TestKnownThatDoNotRise(t *testing.T) {
	known := picture()
	slices.Reverse(known)
	for _, f := range known {
		above(t, known, f.ID, wantedAbove(picture(), f.ID)...)
		below(t, known, f.ID, wantedBelow(picture(), f.ID)...)
	}
	mixed := []api.Frame{of(50, 20, 10), of(10), of(40, 50), of(20, 10), of(30, 40)}
	above(t, mixed, 30, 10, 20, 40, 50)
	below(t, mixed, 10, 20, 30, 40, 50)
}

// P14.1: of several with one ID the first one's Refs, from both sides; each once.
func TestSomeThatStandTwice(t *testing.T) {
	known := []api.Frame{of(1), of(2), of(3, 1), of(3, 2), of(4, 3), of(4, 3, 2), of(1, 2)}
	above(t, known, 1)
	above(t, known, 3, 1)
	above(t, known, 4, 1, 3)
	below(t, known, 1, 3, 4)
	below(t, known, 2)
	below(t, known, 3, 4)
	same := []api.Frame{of(1), of(1), of(2, 1), of(2, 1), of(2, 1)}
	above(t, same, 2, 1)
	below(t, same, 1, 2)
	// A first one without Refs ahead of one that has them.
	late := []api.Frame{of(1), of(7), of(7, 1), of(8, 7)}
	above(t, late, 7)
	above(t, late, 8, 7)
	below(t, late, 1)
}

// R1: zero values.
func TestZeroValues(t *testing.T) {
	above(t, nil, 0)
	below(t, nil, 0)
	for _, n := range []int{1, 2, 200} {
		known := make([]api.Frame, n)
		above(t, known, 0)
		below(t, known, 0)
		known[0].Refs = make([]uint32, 9)
		above(t, known, 0)
		below(t, known, 0)
	}
	above(t, []api.Frame{{}, {ID: 1, Refs: make([]uint32, 9)}}, 1, 0)
	below(t, []api.Frame{{}, {ID: 1, Refs: make([]uint32, 9)}}, 0, 1)
}

// P14.1: what stands behind the Refs, or behind the known ones, in the same room leads nowhere.
func TestWhatStandsBehind(t *testing.T) {
	room := []uint32{1, 2, 3}
	known := []api.Frame{of(1), of(2), of(3), {ID: 9, Refs: room[:1]}, {ID: 10, Refs: room[1:1]}}
	above(t, known, 9, 1)
	above(t, known, 10)
	below(t, known, 1, 9)
	below(t, known, 2)
	all := picture()
	below(t, all[:3], 10, 30)
	above(t, all[4:6], 50, 40)
	below(t, all[5:], 20)
}

// roomy is l in a longer room, each one's Refs in longer rooms too, and that room: what stands ahead and behind would tell otherwise.
func roomy(l []api.Frame) (known, room []api.Frame) {
	room = append(append([]api.Frame{of(10, 70, 50)}, l...), of(80, 10, 40), of(60, 50))
	for i, f := range room {
		room[i].Refs = append(slices.Clone(f.Refs), 60, 20, 7)[:len(f.Refs)]
	}
	return room[1 : 1+len(l)], room
}

// state is a copy of all that stands in the room, and behind each one's Refs.
func state(room []api.Frame) (l []api.Frame, refs [][]uint32) {
	l = slices.Clone(room)
	for i, f := range room {
		l[i].Refs = slices.Clone(f.Refs)
		refs = append(refs, slices.Clone(f.Refs[:cap(f.Refs)]))
	}
	return l, refs
}

// R3: what is handed in is left as it was: the frames, their Refs, and what stands ahead of them and behind them in the same rooms.
func TestWhatIsHandedInIsLeftAsItWas(t *testing.T) {
	back := picture()
	slices.Reverse(back)
	for _, l := range [][]api.Frame{picture(), back, {}, {of(50, 40, 20, 40), of(40, 50), of(50, 10), of(10)}} {
		known, room := roomy(l)
		was, refsWere := state(room)
		for _, id := range []uint32{0, 7, 10, 20, 30, 32, 40, 50, 60, 70, 80, math.MaxUint32} {
			above(t, known, id, wantedAbove(l, id)...)
			below(t, known, id, wantedBelow(l, id)...)
			if now, refs := state(room); !reflect.DeepEqual(now, was) || !reflect.DeepEqual(refs, refsWere) {
				t.Fatalf("%d: %+v was changed: %+v", id, was, now)
			}
		}
	}
}

// R3: what was handed in is not kept: who turns it later is answered by what it is then.
func TestWhatIsHandedInIsNotKept(t *testing.T) {
	known := picture()
	above(t, known, 50, 10, 20, 30, 32, 40)
	below(t, known, 20, 50)
	known[5].Refs[1] = 60
	above(t, known, 50, 10, 30, 32, 40, 60)
	below(t, known, 20)
	known[0].ID = 11
	above(t, known, 40, 30, 32)
	below(t, known, 10)
	below(t, known, 11)
	clear(known)
	above(t, known, 50)
	below(t, known, 20)
	above(t, picture(), 50, 10, 20, 30, 32, 40)
	below(t, picture(), 20, 50)
}

// R3: what is told is new memory, spare room too: who writes into it changes neither known nor another answer.
func TestWhatIsToldIsNewMemory(t *testing.T) {
	known := []api.Frame{of(1), of(2, 1), of(3, 1, 2), of(4, 3)}
	was, refsWere := state(known)
	asks := []func() []uint32{
		func() []uint32 { return tree.Above(known, 2) },
		func() []uint32 { return tree.Above(known, 3) },
		func() []uint32 { return tree.Above(known, 4) },
		func() []uint32 { return tree.Below(known, 1) },
		func() []uint32 { return tree.Below(known, 2) },
		func() []uint32 { return tree.Below(known, 3) },
		func() []uint32 { return tree.Below(known, 4) },
	}
	wants := [][]uint32{{1}, {1, 2}, {1, 2, 3}, {2, 3, 4}, {3, 4}, {4}, nil}
	for i, ask := range asks {
		var first [][]uint32
		for _, other := range asks {
			first = append(first, other())
		}
		l := ask()
		l = l[:cap(l)]
		for j := range l {
			l[j] = 77
		}
		for j := range asks {
			if !slices.Equal(first[j], wants[j]) || !slices.Equal(asks[j](), wants[j]) {
				t.Errorf("%d: %d: %v, then %v, not %v", i, j, first[j], asks[j](), wants[j])
			}
		}
		if now, refs := state(known); !reflect.DeepEqual(now, was) || !reflect.DeepEqual(refs, refsWere) {
			t.Fatalf("%d: %+v was changed: %+v", i, was, now)
		}
	}
}

// R3: frames that share one list of Refs are asked like others.
func TestRefsThatAreShared(t *testing.T) {
	refs := []uint32{2, 1}
	known := []api.Frame{of(1), of(2), {ID: 3, Refs: refs}, {ID: 4, Refs: refs}, {ID: 5, Refs: refs[:1]}}
	above(t, known, 3, 1, 2)
	above(t, known, 4, 1, 2)
	above(t, known, 5, 2)
	below(t, known, 1, 3, 4)
	below(t, known, 2, 3, 4, 5)
	if !slices.Equal(refs, []uint32{2, 1}) {
		t.Errorf("refs were changed: %v", refs)
	}
}

// R4, W6: a call answers the same, whatever was asked between.
func TestCallsAreTheSameEachTime(t *testing.T) {
	r := draw(4)
	for range 200 {
		above(t, picture(), 50, 10, 20, 30, 32, 40)
		tree.Below(r.wild(), r.below(9))
		below(t, picture(), 10, 30, 32, 40, 50)
		tree.Above(r.wild(), r.below(9))
	}
}

// short is l, or where it is long, how long, and its ends.
func short(l []uint32) string {
	if len(l) <= 20 {
		return "[" + words(l) + "]"
	}
	return strconv.Itoa(len(l)) + " of them: [" + words(l[:5]) + " .. " + words(l[len(l)-5:]) + "]"
}

func words(l []uint32) string {
	var w []string
	for _, x := range l {
		w = append(w, strconv.FormatUint(uint64(x), 10))
	}
	return strings.Join(w, " ")
}
