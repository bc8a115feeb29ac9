package frame_test

import (
	"math"
	"reflect"
	"slices"
	"strings"
	"testing"

	"girandole/api"
	"girandole/frame"
)

var kinds = []int{api.KindI, api.KindP, api.KindB}

// others are Kinds that no frame has, those among them that fewer bits would take for one that it has.
var others = []int{
	0, 4, 5, 6, 7, 8, 100, 127, 128, 255, 256, 257, 258, 259, 260, 1<<16 + 1, 1<<16 + 2, 1<<16 + 3, 1<<32 + 1, 1<<32 + 2, 1<<32 + 3,
	-1, -2, -3, -4, -253, -254, -255, -256, -65535, math.MaxInt, math.MaxInt - 1, math.MinInt, math.MinInt + 1, math.MinInt + 2, math.MinInt + 3,
}

// call is what Check is handed.
type call struct {
	f      api.Frame
	known  []api.Frame
	clock  int64
	symbol int
}

func (c call) errno() api.Errno { return frame.Check(c.f, c.known, c.clock, c.symbol) }

// line is n frames one behind the other, with IDs 1,000, 1,010 and so on, the last of which plays at 50 and is due at 90.
func line(n int) []api.Frame {
	var l []api.Frame
	for i := range n {
		back := int64(n - 1 - i)
		l = append(l, api.Frame{ID: uint32(1000 + 10*i), Kind: api.KindI, Size: 7, Play: 50 - min(back, 50), Deadline: 90 - min(back, 30)})
	}
	return l
}

// crowded is l behind so many others that they are n in all: its last one stays the last.
func crowded(l []api.Frame, n int) []api.Frame {
	var all []api.Frame
	for i := range n - len(l) {
		all = append(all, api.Frame{ID: uint32(i + 1), Kind: api.KindI, Size: 7, Deadline: 60})
	}
	return append(all, l...)
}

// fine is a call that is OK: a P behind six known ones, that hangs on four of them.
func fine() call {
	return call{
		f:      api.Frame{ID: 1051, Kind: api.KindP, Refs: []uint32{1050, 1000, 1030, 1010}, Size: 20, Play: 50, Deadline: 90},
		known:  line(6),
		clock:  89,
		symbol: 4,
	}
}

// fineOf is a call that is OK, of that Kind.
func fineOf(kind int) call {
	c := fine()
	c.f.Kind = kind
	if kind == api.KindI {
		c.f.Refs = nil
	}
	return c
}

// cuts tells by taking one symbol off after the other whether so many bytes can be cut: none of the program's divisions.
func cuts(size, symbol int) bool {
	if symbol < 1 || symbol > 64 || size < 1 {
		return false
	}
	for range 32 {
		if size -= symbol; size <= 0 {
			return true
		}
	}
	return false
}

// refsWrong tells whether the Refs lead to whom they may not, by counting.
func refsWrong(f api.Frame, known []api.Frame) bool {
	ids := map[uint32]int{}
	for _, k := range known {
		ids[k.ID] = 1
	}
	asked := map[uint32]int{}
	found := 0
	for _, r := range f.Refs {
		asked[r]++
		found += ids[r]
	}
	if f.Kind == 1 {
		return len(f.Refs) > 0
	}
	return len(f.Refs) == 0 || len(f.Refs) > 4 || len(asked) < len(f.Refs) || found < len(f.Refs)
}

// wanted is what the chapter asks for, with all of its errors weighed, then the first of them taken.
func wanted(c call) api.Errno {
	f, late, full := c.f, c.f.Deadline <= c.clock, len(c.known) >= 100
	var last *api.Frame
	if len(c.known) > 0 {
		last = &c.known[len(c.known)-1]
	}
	for _, x := range []struct {
		holds bool
		e     api.Errno
	}{
		{f.Kind < 1 || f.Kind > 3, api.ErrArg},
		{f.Play < 0, api.ErrArg},
		{f.Deadline > 1099511627776, api.ErrArg},
		{f.Play > f.Deadline, api.ErrArg},
		{!cuts(f.Size, c.symbol), api.ErrSize},
		{last != nil && f.ID <= last.ID, api.ErrOrder},
		{last != nil && f.Play < last.Play, api.ErrOrder},
		{last != nil && f.Deadline < last.Deadline, api.ErrOrder},
		{refsWrong(f, c.known), api.ErrRef},
		{late, api.ErrLate},
		{full, api.ErrFull},
	} {
		if x.holds {
			return x.e
		}
	}
	return api.OK
}

// is asks for that answer.
func is(t *testing.T, c call, want api.Errno) {
	t.Helper()
	if e := c.errno(); e != want {
		t.Errorf("%+v, %d known, clock %d, symbol %d: %d, not %d", c.f, len(c.known), c.clock, c.symbol, e, want)
	}
}

// fault is one thing that is wrong, what it is said in, and how that is told.
type fault struct {
	name, in string
	spoil    func(*call)
	e        api.Errno
}

// faults are each way in which a fine P may be wrong by itself.
func faults() []fault {
	return []fault{
		{"Kind 0", "kind", func(c *call) { c.f.Kind = 0 }, api.ErrArg},
		{"Kind 4", "kind", func(c *call) { c.f.Kind = 4 }, api.ErrArg},
		{"Kind -1", "kind", func(c *call) { c.f.Kind = -1 }, api.ErrArg},
		{"Play below 0", "play", func(c *call) { c.f.Play = -1 }, api.ErrArg},
		{"Play above Deadline", "play", func(c *call) { c.f.Play = 91 }, api.ErrArg},
		{"Deadline above MaxClock", "deadline", func(c *call) { c.f.Deadline = api.MaxClock + 1 }, api.ErrArg},
		{"Deadline below Play", "deadline", func(c *call) { c.f.Deadline = 0 }, api.ErrArg},
		{"no bytes", "size", func(c *call) { c.f.Size = 0 }, api.ErrSize},
		{"Size below 0", "size", func(c *call) { c.f.Size = -1 }, api.ErrSize},
		{"too many bytes", "size", func(c *call) { c.f.Size = 129 }, api.ErrSize},
		{"symbol 0", "symbol", func(c *call) { c.symbol = 0 }, api.ErrSize},
		{"symbol below 0", "symbol", func(c *call) { c.symbol = -4 }, api.ErrSize},
		{"symbol too great", "symbol", func(c *call) { c.symbol = 65 }, api.ErrSize},
		{"the last one's ID", "id", func(c *call) { c.f.ID = 1050 }, api.ErrOrder},
		{"an ID below", "id", func(c *call) { c.f.ID = 1049 }, api.ErrOrder},
		{"ID 0", "id", func(c *call) { c.f.ID = 0 }, api.ErrOrder},
		{"Play below the last one's", "play", func(c *call) { c.f.Play = 49 }, api.ErrOrder},
		{"Deadline below the last one's", "deadline", func(c *call) { c.f.Deadline = 89 }, api.ErrOrder},
		{"an I with Refs", "kind, refs", func(c *call) { c.f.Kind = api.KindI }, api.ErrRef},
		{"no Refs", "refs", func(c *call) { c.f.Refs = nil }, api.ErrRef},
		{"five Refs", "refs", func(c *call) { c.f.Refs = []uint32{1000, 1010, 1020, 1030, 1040} }, api.ErrRef},
		{"one of them twice", "refs", func(c *call) { c.f.Refs = []uint32{1000, 1010, 1000} }, api.ErrRef},
		{"one that nobody is", "refs", func(c *call) { c.f.Refs = []uint32{1000, 1001} }, api.ErrRef},
		{"its own ID", "refs", func(c *call) { c.f.Refs = []uint32{1051} }, api.ErrRef},
		{"the Deadline is the clock", "clock", func(c *call) { c.clock = 90 }, api.ErrLate},
		{"the Deadline is below the clock", "clock", func(c *call) { c.clock = 91 }, api.ErrLate},
		{"the greatest clock", "clock", func(c *call) { c.clock = math.MaxInt64 }, api.ErrLate},
		{"MaxFrames known ones", "known", func(c *call) { c.known = crowded(c.known, api.MaxFrames) }, api.ErrFull},
		{"more known ones", "known", func(c *call) { c.known = crowded(c.known, api.MaxFrames+1) }, api.ErrFull},
	}
}

// Examples: an I of no bytes: ErrSize.
func TestExample(t *testing.T) {
	is(t, call{f: api.Frame{Kind: api.KindI, Deadline: 1}, symbol: 1}, api.ErrSize)
	c := fineOf(api.KindI)
	c.f.Size = 0
	is(t, c, api.ErrSize)
}

// P12.1: OK: ordinary frames of each Kind, behind none, one and many known ones.
func TestOrdinaryFrames(t *testing.T) {
	for _, kind := range kinds {
		is(t, fineOf(kind), api.OK)
	}
	first := api.Frame{ID: 3, Kind: api.KindI, Size: 10, Play: 5, Deadline: 9}
	second := api.Frame{ID: 7, Kind: api.KindP, Refs: []uint32{3}, Size: 1, Play: 5, Deadline: 9}
	third := api.Frame{ID: 8, Kind: api.KindB, Refs: []uint32{7, 3}, Size: 320, Play: 6, Deadline: 12}
	fourth := api.Frame{ID: 100, Kind: api.KindB, Refs: []uint32{8}, Size: 64, Play: 6, Deadline: 12}
	fifth := api.Frame{ID: math.MaxUint32, Kind: api.KindI, Size: 320, Play: 7, Deadline: 13}
	var known []api.Frame
	for _, f := range []api.Frame{first, second, third, fourth, fifth} {
		is(t, call{f, known, 8, 10}, api.OK)
		known = append(known, f)
	}
}

// P12.1: each thing that is wrong by itself.
func TestEachFaultByItself(t *testing.T) {
	is(t, fine(), api.OK)
	for _, x := range faults() {
		c := fine()
		x.spoil(&c)
		if e := c.errno(); e != x.e {
			t.Errorf("%s: %d, not %d", x.name, e, x.e)
		}
	}
}

// P12.1, R2: of each two things that are wrong the first in the chapter's order is told.
func TestEachTwoFaults(t *testing.T) {
	for _, x := range faults() {
		for _, y := range faults() {
			if strings.Contains(x.in, y.in) || strings.Contains(y.in, x.in) {
				continue
			}
			c := fine()
			x.spoil(&c)
			y.spoil(&c)
			// The errnos rise in the chapter's order.
			if e := c.errno(); e != min(x.e, y.e) {
				t.Errorf("%s, %s: %d, not %d", x.name, y.name, e, min(x.e, y.e))
			}
		}
	}
}

// P12.1, R2: of all six errors at once, and of fewer and fewer of them, the first is told.
func TestAllFaultsAtOnce(t *testing.T) {
	all := []fault{}
	for _, name := range []string{"Kind 0", "no bytes", "ID 0", "no Refs", "the Deadline is the clock", "MaxFrames known ones"} {
		i := slices.IndexFunc(faults(), func(x fault) bool { return x.name == name })
		all = append(all, faults()[i])
	}
	for some := range 1 << len(all) {
		c, want := fine(), api.OK
		for i := len(all) - 1; i >= 0; i-- {
			if some>>i&1 == 1 {
				all[i].spoil(&c)
				want = all[i].e
			}
		}
		is(t, c, want)
	}
}

// P12.1: ErrArg: every other Kind, with Refs and without them, with all else right and wrong.
func TestOtherKinds(t *testing.T) {
	for _, kind := range others {
		c := fine()
		c.f.Kind = kind
		is(t, c, api.ErrArg)
		c.f.Refs = nil
		is(t, c, api.ErrArg)
		is(t, call{f: api.Frame{Kind: kind}, clock: math.MaxInt64}, api.ErrArg)
		is(t, call{f: api.Frame{Kind: kind, ID: 9, Size: 1, Deadline: 1}, symbol: 1}, api.ErrArg)
	}
	for kind := -300; kind <= 300; kind++ {
		if kind < api.KindI || kind > api.KindB {
			c := fine()
			c.f.Kind = kind
			is(t, c, api.ErrArg)
		}
	}
}

// P12.1: ErrArg: Play and Deadline at their bounds and just beyond them, and at the ends of their types.
func TestTimes(t *testing.T) {
	const most = api.MaxClock
	for _, x := range []struct {
		play, deadline int64
		e              api.Errno
	}{
		{0, 0, api.OK}, {0, 1, api.OK}, {1, 1, api.OK}, {5, 6, api.OK},
		{0, most, api.OK}, {1, most, api.OK}, {most - 1, most, api.OK}, {most, most, api.OK}, {most - 1, most - 1, api.OK},
		{0, most + 1, api.ErrArg}, {most, most + 1, api.ErrArg}, {most + 1, most + 1, api.ErrArg}, {0, math.MaxInt64, api.ErrArg}, {math.MaxInt64, math.MaxInt64, api.ErrArg},
		{-1, 0, api.ErrArg}, {-1, 5, api.ErrArg}, {-1, -1, api.ErrArg}, {-2, -1, api.ErrArg}, {-1, most, api.ErrArg}, {-1, most + 1, api.ErrArg}, {math.MinInt64, math.MaxInt64, api.ErrArg},
		{math.MinInt64, 0, api.ErrArg}, {math.MinInt64, math.MinInt64, api.ErrArg},
		{1, 0, api.ErrArg}, {6, 5, api.ErrArg}, {0, -1, api.ErrArg}, {0, math.MinInt64, api.ErrArg}, {most, most - 1, api.ErrArg}, {most, 0, api.ErrArg},
		{most + 1, most, api.ErrArg}, {math.MaxInt64, most, api.ErrArg}, {math.MaxInt64, math.MinInt64, api.ErrArg}, {math.MaxInt64, 0, api.ErrArg},
	} {
		for _, kind := range kinds {
			known := []api.Frame{{ID: 2}}
			f := api.Frame{ID: 3, Kind: kind, Size: 1, Play: x.play, Deadline: x.deadline}
			if kind != api.KindI {
				f.Refs = []uint32{2}
			}
			is(t, call{f, known, math.MinInt64, 1}, x.e)
		}
	}
}

// P12.1: ErrSize: each Size and each symbol, from below the bounds to beyond them: just where they can't be cut.
func TestSizes(t *testing.T) {
	c := fine()
	for c.symbol = -70; c.symbol <= 140; c.symbol++ {
		for c.f.Size = -70; c.f.Size <= 2200; c.f.Size++ {
			want := api.OK
			if !cuts(c.f.Size, c.symbol) {
				want = api.ErrSize
			}
			is(t, c, want)
		}
	}
}

// P12.1: ErrSize: Sizes and symbols that were written down ahead, of each Kind.
func TestKnownSizes(t *testing.T) {
	for _, kind := range kinds {
		for _, x := range []struct {
			size, symbol int
			e            api.Errno
		}{
			{1, 1, api.OK}, {32, 1, api.OK}, {33, 1, api.ErrSize}, {0, 1, api.ErrSize}, {-1, 1, api.ErrSize},
			{1, 64, api.OK}, {2048, 64, api.OK}, {2049, 64, api.ErrSize}, {0, 64, api.ErrSize}, {-64, 64, api.ErrSize},
			{1, 65, api.ErrSize}, {2048, 65, api.ErrSize}, {1, 0, api.ErrSize}, {0, 0, api.ErrSize}, {1, -1, api.ErrSize}, {-1, -1, api.ErrSize}, {-5, -2, api.ErrSize},
		} {
			c := fineOf(kind)
			c.f.Size, c.symbol = x.size, x.symbol
			is(t, c, x.e)
		}
	}
}

// P12.1: ErrSize: numbers far beyond either bound, up to the least and the greatest.
func TestSizesFarBeyondTheBounds(t *testing.T) {
	far := []int{
		math.MinInt, math.MinInt + 1, math.MinInt + 64, -1 << 32, -1<<32 + 1, -2048, 0,
		2049, 1 << 16, 1 << 32, 1<<32 + 1, 1 << 40, 1 << 58, 1<<58 + 1, math.MaxInt - 63, math.MaxInt - 1, math.MaxInt,
	}
	for _, x := range far {
		for _, y := range append(far, 1, 2, 32, 64) {
			c := fine()
			c.f.Size, c.symbol = x, y
			is(t, c, api.ErrSize)
			c.f.Size, c.symbol = y, x
			is(t, c, api.ErrSize)
		}
	}
}

// P12.1: ErrOrder: the ID is the last one's or below it, up to the ends of what it can be.
func TestIDsInOrder(t *testing.T) {
	const most = math.MaxUint32
	for _, x := range []struct {
		last, id uint32
		e        api.Errno
	}{
		{5, 6, api.OK}, {5, 7, api.OK}, {5, most, api.OK}, {0, 1, api.OK}, {0, most, api.OK}, {most - 1, most, api.OK}, {1<<31 - 1, 1 << 31, api.OK}, {1, 1<<31 + 2, api.OK},
		{5, 5, api.ErrOrder}, {5, 4, api.ErrOrder}, {5, 0, api.ErrOrder}, {0, 0, api.ErrOrder}, {1, 0, api.ErrOrder},
		{most, most, api.ErrOrder}, {most, most - 1, api.ErrOrder}, {most, 0, api.ErrOrder}, {most, 1, api.ErrOrder}, {1 << 31, 1<<31 - 1, api.ErrOrder}, {1<<31 + 2, 1, api.ErrOrder},
	} {
		for _, kind := range kinds {
			f := api.Frame{ID: x.id, Kind: kind, Size: 1, Deadline: 1}
			if kind != api.KindI {
				f.Refs = []uint32{x.last}
			}
			is(t, call{f, []api.Frame{{ID: x.last}}, 0, 1}, x.e)
		}
	}
}

// P12.1: ErrOrder: Play or Deadline below the last one's, and just the same: not.
func TestTimesInOrder(t *testing.T) {
	for play := int64(47); play <= 53; play++ {
		for deadline := int64(87); deadline <= 93; deadline++ {
			c := fine()
			c.f.Play, c.f.Deadline, c.clock = play, deadline, 80
			if play < 50 || deadline < 90 {
				is(t, c, api.ErrOrder)
			} else {
				is(t, c, api.OK)
			}
		}
	}
	c := fine()
	c.known[5].Play, c.known[5].Deadline = api.MaxClock, api.MaxClock
	c.f.Play, c.f.Deadline = api.MaxClock, api.MaxClock
	is(t, c, api.OK)
	c.f.Play--
	is(t, c, api.ErrOrder)
	c.f.Deadline--
	is(t, c, api.ErrOrder)
}

// P12.1: ErrOrder: known ones whose times are at the ends of their type are held against the frame like others.
func TestLastOnesOfWhateverTimes(t *testing.T) {
	for _, x := range []struct {
		play, deadline int64
		e              api.Errno
	}{
		{math.MinInt64, math.MinInt64, api.OK}, {-1, -1, api.OK}, {0, 90, api.OK}, {90, 0, api.ErrOrder},
		{math.MaxInt64, 0, api.ErrOrder}, {0, math.MaxInt64, api.ErrOrder}, {math.MaxInt64, math.MaxInt64, api.ErrOrder},
	} {
		c := fine()
		c.known[5].Play, c.known[5].Deadline = x.play, x.deadline
		is(t, c, x.e)
	}
}

// P12.1: ErrOrder: it is the last of known that counts, not the greatest, nor the first.
func TestTheLastOneCounts(t *testing.T) {
	c := fine()
	c.known[2] = api.Frame{ID: 5000, Play: 80, Deadline: 1000}
	c.f.Refs = []uint32{5000}
	is(t, c, api.OK)
	c.known[5].ID = 1051
	is(t, c, api.ErrOrder)
	c.f.ID = 1052
	is(t, c, api.OK)
	for n := 2; n < api.MaxFrames; n++ {
		c.known = crowded(line(1), n)
		c.f = api.Frame{ID: 1000, Kind: api.KindI, Size: 1, Play: 50, Deadline: 90}
		is(t, c, api.ErrOrder)
		c.f.ID = 1001
		is(t, c, api.OK)
	}
}

// P12.1: with no known ones, nil and empty alike, nothing is out of order, and nobody can be hung on; what stands behind in the same room does not matter.
func TestNoKnownOnes(t *testing.T) {
	for _, none := range [][]api.Frame{nil, {}, line(6)[:0], crowded(line(6), 200)[:0]} {
		for _, id := range []uint32{0, 1, 1000, 1050, math.MaxUint32} {
			for _, play := range []int64{0, 1, 49, 90} {
				f := api.Frame{ID: id, Kind: api.KindI, Size: 1, Play: play, Deadline: 90}
				is(t, call{f, none, 89, 1}, api.OK)
				for _, kind := range []int{api.KindP, api.KindB} {
					f.Kind, f.Refs = kind, nil
					is(t, call{f, none, 89, 1}, api.ErrRef)
					f.Refs = []uint32{1000}
					is(t, call{f, none, 89, 1}, api.ErrRef)
					f.Refs = []uint32{0}
					is(t, call{f, none, 89, 1}, api.ErrRef)
				}
			}
		}
	}
}

// P12.1: what stands behind the last known one in the same room does not matter.
func TestWhatStandsBehindTheKnownOnes(t *testing.T) {
	c := fine()
	c.known = append(c.known, crowded(nil, 200)...)
	c.known[6] = api.Frame{ID: 9000, Play: 1000, Deadline: 1000}
	c.known = c.known[:6]
	is(t, c, api.OK)
	c.f.Refs = []uint32{9000}
	is(t, c, api.ErrRef)
}

// P12.1: ErrRef: an I with Refs, whichever and however many; nil and empty alike: none.
func TestRefsOfAnI(t *testing.T) {
	c := fineOf(api.KindI)
	room := []uint32{1000, 1010, 1020, 1030, 1040, 1050}
	for _, none := range [][]uint32{nil, {}, room[:0]} {
		c.f.Refs = none
		is(t, c, api.OK)
	}
	for n := 1; n <= len(room); n++ {
		c.f.Refs = room[:n]
		is(t, c, api.ErrRef)
	}
	for _, refs := range [][]uint32{{0}, {1051}, {7}, {1000, 1000}, make([]uint32, 1000)} {
		c.f.Refs = refs
		is(t, c, api.ErrRef)
	}
}

// P12.1: ErrRef: how many a P and a B may have: one to MaxRefs of them; what stands behind them in the same room does not matter.
func TestHowManyRefs(t *testing.T) {
	for _, kind := range []int{api.KindP, api.KindB} {
		room := []uint32{1050, 1010, 1020, 1000, 1040, 1030, 1010, 7}
		for n := range room {
			c := fineOf(kind)
			if c.f.Refs = room[:n]; n >= 1 && n <= 4 {
				is(t, c, api.OK)
			} else {
				is(t, c, api.ErrRef)
			}
		}
		c := fineOf(kind)
		c.f.Refs = nil
		is(t, c, api.ErrRef)
		c.f.Refs = []uint32{}
		is(t, c, api.ErrRef)
	}
}

// P12.1: ErrRef: more Refs than MaxRefs, all of them known ones, up to very many.
func TestVeryManyRefs(t *testing.T) {
	for _, n := range []int{5, 6, 8, 16, 90} {
		c := fine()
		c.known = crowded(line(6), 99)
		c.f.Refs = nil
		for _, k := range c.known[:n] {
			c.f.Refs = append(c.f.Refs, k.ID)
		}
		is(t, c, api.ErrRef)
	}
	c := fine()
	c.f.Refs = make([]uint32, 1<<22)
	for i := range c.f.Refs {
		c.f.Refs[i] = uint32(i)
	}
	is(t, c, api.ErrRef)
}

// P12.1: ErrRef: one of them twice, at any two places; three and four times.
func TestRefsThatStandTwice(t *testing.T) {
	for _, kind := range []int{api.KindP, api.KindB} {
		for n := 2; n <= api.MaxRefs; n++ {
			for i := range n {
				for j := range i {
					c := fineOf(kind)
					c.f.Refs = []uint32{1050, 1000, 1030, 1010}[:n]
					is(t, c, api.OK)
					c.f.Refs[i] = c.f.Refs[j]
					is(t, c, api.ErrRef)
				}
			}
			c := fineOf(kind)
			c.f.Refs = []uint32{1020, 1020, 1020, 1020}[:n]
			is(t, c, api.ErrRef)
		}
	}
}

// P12.1: ErrRef: one that is not the ID of one of known, at each place, its own ID among them.
func TestRefsThatNobodyIs(t *testing.T) {
	for _, kind := range []int{api.KindP, api.KindB} {
		for _, nobody := range []uint32{0, 1, 5, 6, 7, 999, 1001, 1009, 1011, 1049, 1051, 1052, 1060, 1<<16 + 1000, 1<<31 + 1000, math.MaxUint32} {
			for n := 1; n <= api.MaxRefs; n++ {
				for place := range n {
					c := fineOf(kind)
					c.f.Refs = []uint32{1050, 1000, 1030, 1010}[:n]
					c.f.Refs[place] = nobody
					is(t, c, api.ErrRef)
				}
			}
		}
	}
}

// P12.1: each one of known may be hung on, the first and the last, whatever its ID is, in whatever order.
func TestEachKnownOneMayBeHungOn(t *testing.T) {
	c := fine()
	c.known = crowded(line(6), 99)
	c.known[7].ID = 0
	for _, k := range c.known {
		c.f.Refs = []uint32{k.ID}
		is(t, c, api.OK)
		c.f.Refs = []uint32{1050, 0, k.ID}
		if k.ID == 0 || k.ID == 1050 {
			is(t, c, api.ErrRef)
		} else {
			is(t, c, api.OK)
		}
	}
	is(t, call{api.Frame{ID: math.MaxUint32, Kind: api.KindB, Refs: []uint32{math.MaxUint32 - 1}, Size: 1}, []api.Frame{{ID: math.MaxUint32 - 1}}, -1, 1}, api.OK)
}

// P12.1: of known ones but the last, only the IDs count: what else they are is not asked for again.
func TestWhatKnownOnesAreIsNotAskedFor(t *testing.T) {
	c := fine()
	for i := range c.known {
		c.known[i] = api.Frame{ID: c.known[i].ID, Kind: -1, Refs: []uint32{1051, 7, 7, 7, 7, 7}, Size: -5, Play: 10, Deadline: -10}
	}
	is(t, c, api.OK)
}

// 'What follows': frames that come one after the other hang on earlier ones alone.
func TestFramesHangOnEarlierOnesAlone(t *testing.T) {
	r, hung := draw(12), 0
	for range 500 {
		var known []api.Frame
		for range 60 {
			next := uint32(len(known))
			f := api.Frame{ID: next + r.below(2), Kind: int(1 + r.below(3)), Size: 1}
			for range r.below(4) {
				f.Refs = append(f.Refs, r.below(next+3))
			}
			if (call{f, known, -1, 1}).errno() != api.OK {
				continue
			}
			for _, ref := range f.Refs {
				if hung++; ref >= f.ID || !slices.ContainsFunc(known, func(k api.Frame) bool { return k.ID == ref }) {
					t.Fatalf("%+v behind %+v", f, known)
				}
			}
			known = append(known, f)
		}
	}
	if hung < 1000 {
		t.Errorf("%d: too few to tell", hung)
	}
}

// P12.1: ErrLate: the Deadline is the clock or below it, of each Kind, up to the ends of what a clock can be.
func TestClocks(t *testing.T) {
	for _, kind := range kinds {
		for _, x := range []struct {
			deadline, clock int64
			e               api.Errno
		}{
			{90, 89, api.OK}, {90, 90, api.ErrLate}, {90, 91, api.ErrLate}, {90, 0, api.OK}, {90, -1, api.OK}, {90, math.MinInt64, api.OK}, {90, math.MaxInt64, api.ErrLate}, {90, 1 << 62, api.ErrLate},
			{api.MaxClock, api.MaxClock - 1, api.OK}, {api.MaxClock, api.MaxClock, api.ErrLate}, {api.MaxClock, api.MaxClock + 1, api.ErrLate}, {api.MaxClock, math.MinInt64, api.OK}, {api.MaxClock, math.MaxInt64, api.ErrLate},
			{1<<32 + 90, 91, api.OK}, {91, 1<<32 + 90, api.ErrLate},
		} {
			c := fineOf(kind)
			c.f.Deadline, c.clock = x.deadline, x.clock
			is(t, c, x.e)
		}
	}
	is(t, call{f: api.Frame{Kind: api.KindI, Size: 1}, symbol: 1}, api.ErrLate)
	is(t, call{f: api.Frame{Kind: api.KindI, Size: 1}, clock: -1, symbol: 1}, api.OK)
	is(t, call{f: api.Frame{Kind: api.KindI, Size: 1}, clock: math.MinInt64, symbol: 1}, api.OK)
}

// P12.1: it is the Deadline that is late or not: a Play that has gone by is no fault.
func TestAPlayThatHasGoneBy(t *testing.T) {
	c := fine()
	for c.clock = 0; c.clock < 90; c.clock++ {
		is(t, c, api.OK)
	}
}

// P12.1: ErrFull: known has MaxFrames or more; one fewer: not.
func TestHowManyKnownOnes(t *testing.T) {
	for _, kind := range kinds {
		for _, n := range []int{6, 7, 50, 98, 99, 100, 101, 102, 200, 255, 256, 257, 356, 1 << 16, 1<<16 + 6} {
			c := fineOf(kind)
			c.known = crowded(line(6), n)
			if n < 100 {
				is(t, c, api.OK)
			} else {
				is(t, c, api.ErrFull)
			}
		}
	}
}

// P12.1: a session's frames, one behind the other: just MaxFrames of them.
func TestFramesTillItIsFull(t *testing.T) {
	var known []api.Frame
	for i := range uint32(api.MaxFrames) {
		f := api.Frame{ID: i, Kind: kinds[i%3], Size: 1, Play: int64(i), Deadline: int64(i) + 5}
		if f.Kind != api.KindI {
			f.Refs = []uint32{i - 1}
		}
		is(t, call{f, known, int64(i), 1}, api.OK)
		known = append(known, f)
	}
	is(t, call{api.Frame{ID: api.MaxFrames, Kind: api.KindI, Size: 1, Play: 200, Deadline: 200}, known, 0, 1}, api.ErrFull)
}

// draw is a run of numbers that is the same each time.
type draw uint32

func (r *draw) below(n uint32) uint32 {
	*r = *r*1664525 + 1013904223
	return uint32(*r>>8) % n
}

// among is one of l.
func among[T any](r *draw, l ...T) T { return l[r.below(uint32(len(l)))] }

// mostly is the first of l, but now and then another one.
func mostly[T any](r *draw, l ...T) T {
	if r.below(8) > 0 {
		return l[0]
	}
	return among(r, l...)
}

// call is one that is near to what may be, and often on the edge.
func (r *draw) call() call {
	n := int(mostly(r, r.below(8), 0, 1, 98, 99, 100, 101))
	c := call{known: crowded(line(min(n, 6)), n)}
	c.clock = among[int64](r, 0, 0, 0, 88, 89, 90, 91, -1, math.MinInt64, math.MaxInt64)
	c.symbol = mostly(r, 4, 0, -1, 1, 64, 65, math.MaxInt, math.MinInt)
	c.f.ID = among(r, 1060, 1061, 1051, 1050, 1001, 2000, math.MaxUint32, r.below(1100))
	c.f.Kind = mostly(r, among(r, kinds...), 0, -1, 4, 257, math.MinInt)
	c.f.Size = mostly(r, 20, 0, -1, 1, 128, 129, 2048, 2049, math.MaxInt)
	c.f.Play = mostly[int64](r, 50, 49, 51, 0, -1, 90, 91, api.MaxClock, math.MaxInt64)
	c.f.Deadline = mostly[int64](r, 90, 89, 91, 49, api.MaxClock, api.MaxClock+1, math.MaxInt64, -1)
	if c.f.Kind == api.KindI && r.below(8) > 0 {
		return c
	}
	for range mostly(r, 1+r.below(4), 0, 5, 6) {
		c.f.Refs = append(c.f.Refs, mostly(r, 1000+10*r.below(7), r.below(1100), c.f.ID))
	}
	return c
}

// P12.1: what the chapter asks for, over many drawn calls; each answer comes up often.
func TestDrawnCalls(t *testing.T) {
	r, seen := draw(1), map[api.Errno]int{}
	for range 400000 {
		c := r.call()
		want := wanted(c)
		if seen[want]++; c.errno() != want {
			t.Fatalf("%+v, %d known, clock %d, symbol %d: %d, not %d", c.f, len(c.known), c.clock, c.symbol, c.errno(), want)
		}
	}
	for _, e := range []api.Errno{api.OK, api.ErrArg, api.ErrSize, api.ErrOrder, api.ErrRef, api.ErrLate, api.ErrFull} {
		if seen[e] < 1000 {
			t.Errorf("%d: %d times: too few to tell", e, seen[e])
		}
	}
}

// roomy is c with its lists in longer rooms, and those rooms, ahead of the lists and behind them.
func roomy(c call) (call, []uint32, []api.Frame) {
	refs := append(append([]uint32{71, 72}, c.f.Refs...), 73, 74, 75)
	known := append(append([]api.Frame{{ID: 81, Refs: []uint32{1}}}, c.known...), api.Frame{ID: 82, Refs: []uint32{2}}, api.Frame{ID: 83})
	for i := range known {
		known[i].Refs = append(append([]uint32{}, known[i].Refs...), 5, 6, 7)[:len(known[i].Refs)]
	}
	c.f.Refs = refs[2 : 2+len(c.f.Refs)]
	c.known = known[1 : 1+len(c.known)]
	return c, refs, known
}

// state is all that stands in the rooms of a call's lists.
type state struct {
	refs  []uint32
	known []api.Frame
	rooms [][]uint32 // of the known ones' Refs
}

// stateOf is a copy of all that stands there now.
func stateOf(refs []uint32, known []api.Frame) state {
	s := state{refs: slices.Clone(refs), known: slices.Clone(known)}
	for i, f := range known {
		s.known[i].Refs = slices.Clone(f.Refs)
		s.rooms = append(s.rooms, slices.Clone(f.Refs[:cap(f.Refs)]))
	}
	return s
}

// R3: what is handed in is left as it was, and what stands ahead of it and behind it in the same room too, whatever is answered.
func TestWhatIsHandedInIsLeftAsItWas(t *testing.T) {
	spoils := []func(*call){func(*call) {}, func(c *call) { c.f.Kind, c.f.Refs = api.KindI, nil }}
	for _, x := range faults() {
		spoils = append(spoils, x.spoil)
	}
	for i, spoil := range spoils {
		c := fine()
		for j := range c.known {
			c.known[j].Refs = []uint32{uint32(1000 + 10*j), 1000, 7}
		}
		spoil(&c)
		c, refs, known := roomy(c)
		was := stateOf(refs, known)
		first := c.errno()
		if now := stateOf(refs, known); !reflect.DeepEqual(now, was) {
			t.Errorf("%d: %+v was changed: %+v", i, was, now)
		}
		if again := c.errno(); again != first || first != wanted(c) {
			t.Errorf("%d: %d, then %d", i, first, again)
		}
	}
}

// R3: what was handed in is not kept: who turns it later turns no answer, and is answered by what it is then.
func TestWhatIsHandedInIsNotKept(t *testing.T) {
	c := fine()
	is(t, c, api.OK)
	c.f.Refs[0] = 7
	is(t, c, api.ErrRef)
	is(t, fine(), api.OK)
	c.f.Refs[0] = 1050
	is(t, c, api.OK)
	c.known[0].ID = 999
	is(t, c, api.ErrRef)
	is(t, fine(), api.OK)
	c.known[5] = api.Frame{ID: 5000}
	is(t, c, api.ErrOrder)
	is(t, fine(), api.OK)
}

// R3: a frame whose Refs are the Refs of a known one is asked like others.
func TestRefsThatAreSharedWithAKnownOne(t *testing.T) {
	c := fine()
	for i := range c.known {
		c.known[i].Refs = c.f.Refs
	}
	is(t, c, api.OK)
}

// R4, W6: a call answers the same, whatever was asked and refused between.
func TestCallsAreTheSameEachTime(t *testing.T) {
	for range 20 {
		is(t, fine(), api.OK)
		for _, x := range faults() {
			c := fine()
			x.spoil(&c)
			is(t, c, x.e)
			is(t, fine(), api.OK)
		}
	}
}

// R1: zero values, of each argument and of all of them.
func TestZeroValues(t *testing.T) {
	is(t, call{}, api.ErrArg)
	is(t, call{f: api.Frame{Kind: api.KindB}}, api.ErrSize)
	is(t, call{f: api.Frame{Kind: api.KindB, Size: 1}, known: []api.Frame{{}}, symbol: 1}, api.ErrOrder)
	is(t, call{f: api.Frame{Kind: api.KindB, Size: 1, ID: 1}, known: []api.Frame{{}}, symbol: 1}, api.ErrRef)
	is(t, call{f: api.Frame{Kind: api.KindB, Size: 1, ID: 1, Refs: []uint32{0}}, known: []api.Frame{{}}, symbol: 1}, api.ErrLate)
	is(t, call{f: api.Frame{Kind: api.KindB, Size: 1, ID: 1, Refs: []uint32{0}}, known: []api.Frame{{}}, clock: -1, symbol: 1}, api.OK)
	is(t, call{f: api.Frame{Kind: api.KindI, Size: 1, ID: 1}, known: make([]api.Frame, api.MaxFrames), clock: -1, symbol: 1}, api.ErrFull)
}
