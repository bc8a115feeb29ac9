package ledger_test

import (
	"math"
	"runtime"
	"slices"
	"testing"

	"girandole/api"
	"girandole/ledger"
)

// more is how many symbols a frame has behind its Open; most is the greatest k.
const (
	more = 64
	most = 32
)

// good are numbers of symbols that may be, bad ones that may not.
var (
	good = []int{1, 2, 3, 4, 15, 16, 17, 30, 31, 32}
	bad  = []int{
		math.MinInt, math.MinInt + 1, math.MinInt + 5, -1<<48 + 5, math.MinInt32 - 1, math.MinInt32, -65536, -256, -255, -64, -33, -32, -31, -2, -1, 0,
		33, 34, 63, 64, 65, 96, 97, 127, 128, 255, 256, 257, 65535, 65536, 65537, math.MaxInt32, math.MaxInt32 + 1, math.MaxUint32, 1 << 32, 1<<32 + 1, 1<<48 + 5, math.MaxInt - 1, math.MaxInt,
	}
)

// ids are IDs at which something turns.
var ids = []uint32{0, 1, 2, 3, 31, 32, 33, 255, 256, 257, 65535, 65536, 65537, math.MaxInt32, math.MaxInt32 + 1, math.MaxUint32 - 1, math.MaxUint32}

// draw is a run of numbers that is the same each time.
type draw uint32

func (r *draw) next() uint32 {
	*r = *r*1664525 + 1013904223
	return uint32(*r)>>16 | uint32(*r)<<16
}

// below is one from 0 to n - 1.
func (r *draw) below(n int) int { return int(r.next() % uint32(n)) }

// k is a number of symbols: mostly one that may be.
func (r *draw) k() int {
	if r.below(6) == 0 {
		return bad[r.below(len(bad))]
	}
	return 1 + r.below(most)
}

// id is one of a few.
func (r *draw) id() uint32 { return []uint32{0, 1, 2, 7, math.MaxUint32}[r.below(5)] }

// line is a frame that is open, and the symbols that it has yet to tell.
type line struct {
	frame uint32
	left  []int
}

// plain is a list of the frames that are open, that does what the chapter's words say.
type plain []line

// place is where frame stands, or below 0.
func (p *plain) place(frame uint32) int {
	return slices.IndexFunc(*p, func(l line) bool { return l.frame == frame })
}

func (p *plain) open(frame uint32, k int) bool {
	if p.place(frame) >= 0 || k <= 0 || k > 32 {
		return false
	}
	l := line{frame: frame}
	for n := k; n <= k+64-1; n++ {
		l.left = append(l.left, n)
	}
	*p = append(*p, l)
	return true
}

func (p *plain) next(frame uint32) (int, bool) {
	at := p.place(frame)
	if at < 0 || len((*p)[at].left) == 0 {
		return 0, false
	}
	n := (*p)[at].left[0]
	(*p)[at].left = (*p)[at].left[1:]
	return n, true
}

func (p *plain) left(frame uint32) int {
	if at := p.place(frame); at >= 0 {
		return len((*p)[at].left)
	}
	return 0
}

func (p *plain) close(frame uint32) bool {
	at := p.place(frame)
	if at < 0 {
		return false
	}
	*p = slices.Delete(*p, at, at+1)
	return true
}

// opens asks for a yes.
func opens(t *testing.T, l *ledger.Ledger, frame uint32, k int) {
	t.Helper()
	if !l.Open(frame, k) {
		t.Fatalf("Open(%d, %d): no", frame, k)
	}
}

// refuses asks for a no.
func refuses(t *testing.T, l *ledger.Ledger, frame uint32, k int) {
	t.Helper()
	if l.Open(frame, k) {
		t.Fatalf("Open(%d, %d): yes", frame, k)
	}
}

// tells asks for these symbols, one behind the other.
func tells(t *testing.T, l *ledger.Ledger, frame uint32, symbols ...int) {
	t.Helper()
	for _, n := range symbols {
		if got, ok := l.Next(frame); got != n || !ok {
			t.Fatalf("Next(%d): %d, %v, not %d", frame, got, ok, n)
		}
	}
}

// ends asks for no next symbol.
func ends(t *testing.T, l *ledger.Ledger, frame uint32) {
	t.Helper()
	if got, ok := l.Next(frame); got != 0 || ok {
		t.Fatalf("Next(%d): %d, %v", frame, got, ok)
	}
}

// left asks for how many are left.
func left(t *testing.T, l *ledger.Ledger, frame uint32, n int) {
	t.Helper()
	if got := l.Left(frame); got != n {
		t.Fatalf("Left(%d): %d, not %d", frame, got, n)
	}
}

// closes asks for a yes: frame was open.
func closes(t *testing.T, l *ledger.Ledger, frame uint32) {
	t.Helper()
	if !l.Close(frame) {
		t.Fatalf("Close(%d): no", frame)
	}
}

// stayed asks for a no: frame was not open.
func stayed(t *testing.T, l *ledger.Ledger, frame uint32) {
	t.Helper()
	if l.Close(frame) {
		t.Fatalf("Close(%d): yes", frame)
	}
}

// shut asks for what is told of a frame that is not open, and leaves it so.
func shut(t *testing.T, l *ledger.Ledger, frame uint32) {
	t.Helper()
	left(t, l, frame, 0)
	ends(t, l, frame)
	left(t, l, frame, 0)
	stayed(t, l, frame)
	ends(t, l, frame)
	stayed(t, l, frame)
}

// run is the n symbols from first on.
func run(first, n int) (symbols []int) {
	for k := range n {
		symbols = append(symbols, first+k)
	}
	return symbols
}

// Examples: Open(1, 3), Next(1): 3.
func TestExample(t *testing.T) {
	l := ledger.New()
	opens(t, l, 1, 3)
	tells(t, l, 1, 3)
}

// The numbers of the chapter are those of package api.
func TestNumbers(t *testing.T) {
	if api.MaxSource != most || api.MaxRepair != more {
		t.Fatalf("%d, %d", api.MaxSource, api.MaxRepair)
	}
}

// P23.1 Open: yes at each k from 1 to MaxSource, of whatever frame.
func TestOpen(t *testing.T) {
	for _, id := range ids {
		for k := 1; k <= most; k++ {
			l := ledger.New()
			opens(t, l, id, k)
			left(t, l, id, more)
			tells(t, l, id, k)
			closes(t, l, id)
		}
	}
}

// P23.1 Open: no: k is not from 1 to MaxSource; a frame that was refused is not open, and it may be opened.
func TestWhatMayNotBeOpened(t *testing.T) {
	for _, id := range ids {
		for _, k := range bad {
			l := ledger.New()
			refuses(t, l, id, k)
			shut(t, l, id)
			refuses(t, l, id, k)
			opens(t, l, id, 9)
			left(t, l, id, more)
			tells(t, l, id, 9, 10)
		}
	}
}

// P23.1 Open: a frame that is refused turns nothing of those that are open.
func TestARefusedOneTurnsNoOther(t *testing.T) {
	for _, k := range bad {
		l := ledger.New()
		opens(t, l, 1, 3)
		tells(t, l, 1, 3, 4)
		refuses(t, l, 2, k)
		left(t, l, 1, more-2)
		tells(t, l, 1, 5)
		shut(t, l, 2)
	}
}

// P23.1 Open: no: it was open, whatever k is; what it has left and tells next is as it was.
func TestWhoIsOpenIsNotOpenedAnew(t *testing.T) {
	for _, id := range ids {
		for _, told := range []int{0, 1, 2, 30, 62, 63, 64} {
			l := ledger.New()
			opens(t, l, id, 5)
			tells(t, l, id, run(5, told)...)
			for _, k := range slices.Concat(good, bad) {
				refuses(t, l, id, k)
				left(t, l, id, more-told)
			}
			tells(t, l, id, run(5+told, more-told)...)
			ends(t, l, id)
		}
	}
}

// P23.1 Open: between any two symbols it is no, and the next one is told all the same.
func TestOpenBetweenTwoSymbols(t *testing.T) {
	l := ledger.New()
	opens(t, l, 8, 20)
	for n := range more {
		refuses(t, l, 8, 1+n%most)
		refuses(t, l, 8, bad[n%len(bad)])
		left(t, l, 8, more-n)
		tells(t, l, 8, 20+n)
	}
	refuses(t, l, 8, 20)
	ends(t, l, 8)
}

// P23.1 Open: many frames are open side by side: each has its own k, and all its symbols.
func TestManySideBySide(t *testing.T) {
	const many = 5000
	l := ledger.New()
	frame := func(n int) uint32 { return uint32(n) * 858993 }
	k := func(n int) int { return 1 + n%most }
	for n := range many {
		opens(t, l, frame(n), k(n))
	}
	for told := range more {
		for n := range many {
			left(t, l, frame(n), more-told)
			tells(t, l, frame(n), k(n)+told)
		}
	}
	for n := range many {
		refuses(t, l, frame(n), k(n))
		ends(t, l, frame(n))
		closes(t, l, frame(n))
		shut(t, l, frame(n))
	}
}

// P23.1 Next: k at first, one more each time, up to k + MaxRepair - 1; then 0 and no, each time anew. Left: one less behind each.
func TestAllSymbols(t *testing.T) {
	for _, id := range ids {
		for k := 1; k <= most; k++ {
			l := ledger.New()
			opens(t, l, id, k)
			for n := range more {
				left(t, l, id, more-n)
				tells(t, l, id, k+n)
			}
			for range 5 {
				left(t, l, id, 0)
				ends(t, l, id)
			}
		}
	}
}

// P23.1 Next: the last one at k 1 and at MaxSource.
func TestTheLastSymbol(t *testing.T) {
	for k, last := range map[int]int{1: 64, 2: 65, 31: 94, 32: 95} {
		l := ledger.New()
		opens(t, l, 4, k)
		tells(t, l, 4, run(k, 63)...)
		left(t, l, 4, 1)
		tells(t, l, 4, last)
		left(t, l, 4, 0)
		ends(t, l, 4)
	}
}

// P23.1 Next, Left, Close of a frame that is not open: 0 and no, 0, no; none of them lets it be open, nor turns another one.
func TestWhoIsNotOpen(t *testing.T) {
	for _, id := range ids {
		l := ledger.New()
		shut(t, l, id)
		others := []uint32{id + 1, id - 1, id ^ 1<<31, id ^ 1<<16, id ^ 1<<8}
		for at, other := range others {
			opens(t, l, other, 1+at)
		}
		for n := range more {
			shut(t, l, id)
			for at, other := range others {
				left(t, l, other, more-n)
				tells(t, l, other, 1+at+n)
			}
		}
		opens(t, l, id, 32)
		left(t, l, id, more)
		tells(t, l, id, run(32, more)...)
	}
}

// P23.1: one frame's calls turn nothing of another one's, whatever they are.
func TestEachFrameHasItsOwn(t *testing.T) {
	for name, call := range map[string]func(l *ledger.Ledger){
		"Open":  func(l *ledger.Ledger) { l.Open(2, 30) },
		"no":    func(l *ledger.Ledger) { l.Open(2, 0) },
		"Next":  func(l *ledger.Ledger) { l.Next(2) },
		"Left":  func(l *ledger.Ledger) { l.Left(2) },
		"Close": func(l *ledger.Ledger) { l.Close(2) },
		"anew":  func(l *ledger.Ledger) { l.Close(2); l.Open(2, 9) },
		"all": func(l *ledger.Ledger) {
			for range 70 {
				l.Next(2)
			}
		},
	} {
		l := ledger.New()
		opens(t, l, 1, 7)
		opens(t, l, 2, 8)
		tells(t, l, 1, 7, 8, 9)
		for n := 10; n < 7+more; n++ {
			call(l)
			if got := l.Left(1); got != 7+more-n {
				t.Fatalf("%s: Left(1): %d, not %d", name, got, 7+more-n)
			}
			call(l)
			if got, ok := l.Next(1); got != n || !ok {
				t.Fatalf("%s: Next(1): %d, %v, not %d", name, got, ok, n)
			}
		}
		call(l)
		ends(t, l, 1)
		call(l)
		closes(t, l, 1)
		call(l)
		shut(t, l, 1)
	}
}

// P23.1 Left: asking turns nothing, however often.
func TestAskingForWhatIsLeft(t *testing.T) {
	l := ledger.New()
	opens(t, l, 6, 11)
	for n := range more {
		for range 200 {
			left(t, l, 6, more-n)
			left(t, l, 5, 0)
		}
		tells(t, l, 6, 11+n)
	}
	left(t, l, 6, 0)
	left(t, l, 6, 0)
	refuses(t, l, 6, 11)
	closes(t, l, 6)
	stayed(t, l, 5)
}

// P23.1: a frame of which none is left is open still: Open no, Close yes.
func TestNoneIsLeft(t *testing.T) {
	for _, id := range ids {
		l := ledger.New()
		opens(t, l, id, 2)
		tells(t, l, id, run(2, more)...)
		ends(t, l, id)
		for _, k := range slices.Concat(good, bad) {
			refuses(t, l, id, k)
			left(t, l, id, 0)
			ends(t, l, id)
		}
		closes(t, l, id)
		shut(t, l, id)
	}
}

// P23.1 Close: yes for one that is open, whatever it has told; no the second time; behind it it is not open.
func TestClose(t *testing.T) {
	for _, id := range ids {
		for told := 0; told <= more; told++ {
			l := ledger.New()
			opens(t, l, id, 32)
			tells(t, l, id, run(32, told)...)
			closes(t, l, id)
			shut(t, l, id)
			for _, k := range bad {
				refuses(t, l, id, k)
			}
			shut(t, l, id)
		}
	}
}

// P23.1 Close: no for one that was never open, or only refused; those that are open stay so.
func TestCloseOfOneThatWasNeverOpen(t *testing.T) {
	l := ledger.New()
	opens(t, l, 3, 4)
	for _, id := range ids {
		if id == 3 {
			continue
		}
		stayed(t, l, id)
		refuses(t, l, id, 33)
		stayed(t, l, id)
	}
	left(t, l, 3, more)
	tells(t, l, 3, 4)
	closes(t, l, 3)
}

// P23.1 Close: it may be opened anew, by its own k, with all symbols left, whatever was told ahead.
func TestOpenAnew(t *testing.T) {
	for _, id := range ids {
		for _, told := range []int{0, 1, 2, 40, 63, 64} {
			l := ledger.New()
			for k := most; k >= 1; k-- {
				opens(t, l, id, k)
				left(t, l, id, more)
				tells(t, l, id, run(k, told)...)
				left(t, l, id, more-told)
				closes(t, l, id)
			}
			for _, k := range []int{7, 7, 32, 1} {
				opens(t, l, id, k)
				tells(t, l, id, run(k, more)...)
				ends(t, l, id)
				closes(t, l, id)
			}
			shut(t, l, id)
		}
	}
}

// 'What follows': no symbol is told twice while a frame is open, whatever is asked between.
func TestNoSymbolIsToldTwice(t *testing.T) {
	r := draw(5)
	for _, k := range good {
		l := ledger.New()
		opens(t, l, 7, k)
		var told []int
		for range 3000 {
			switch r.below(5) {
			case 0:
				l.Open(7, r.k())
			case 1:
				l.Left(7)
			case 2:
				other := 8 + r.next()%4
				l.Open(other, r.k())
				l.Next(other)
				l.Close(other)
			default:
				n, ok := l.Next(7)
				if ok && slices.Contains(told, n) {
					t.Fatalf("%d is told twice", n)
				}
				if ok {
					told = append(told, n)
				}
			}
		}
		if len(told) != more || slices.Max(told) != k+more-1 {
			t.Fatalf("k %d: %v", k, told)
		}
	}
}

// P23.1: of a nil Ledger: no, 0.
func TestOfANilLedger(t *testing.T) {
	var none *ledger.Ledger
	for _, id := range ids {
		for _, k := range slices.Concat(good, bad) {
			refuses(t, none, id, k)
			shut(t, none, id)
		}
	}
}

// R1: a Ledger that New did not make fails at nothing.
func TestALedgerThatNewDidNotMake(t *testing.T) {
	for _, id := range ids {
		var l ledger.Ledger
		shut(t, &l, id)
		refuses(t, &l, id, 0)
		opens(t, &l, id, 6)
		refuses(t, &l, id, 6)
		tells(t, &l, id, 6, 7)
		closes(t, &l, id)
		shut(t, &l, id)
	}
}

// R4: each Ledger has its own frames.
func TestTwoLedgersSideBySide(t *testing.T) {
	a, b := ledger.New(), ledger.New()
	opens(t, a, 1, 3)
	shut(t, b, 1)
	opens(t, b, 1, 30)
	for n := range more {
		tells(t, a, 1, 3+n)
		left(t, b, 1, more-n)
		tells(t, b, 1, 30+n)
	}
	closes(t, a, 1)
	shut(t, a, 1)
	left(t, b, 1, 0)
	refuses(t, b, 1, 3)
	closes(t, b, 1)
}

// LANGUAGE 8: of frames that are open no more nothing is kept.
func TestNothingIsKeptOfClosedOnes(t *testing.T) {
	l := ledger.New()
	before := heap()
	for id := range uint32(1_000_000) {
		opens(t, l, id, 1+int(id%most))
		tells(t, l, id, 1+int(id%most))
		closes(t, l, id)
	}
	if after := heap(); after > before+1<<20 {
		t.Fatalf("%d bytes are kept", after-before)
	}
	runtime.KeepAlive(l)
}

// heap is how many bytes are kept.
func heap() uint64 {
	runtime.GC()
	var m runtime.MemStats
	runtime.ReadMemStats(&m)
	return m.HeapAlloc
}

// P23.1: drawn runs of all calls on a few frames, against a plain list.
func TestDrawnRuns(t *testing.T) {
	for seed := range 300 {
		r, l, p := draw(seed), ledger.New(), plain{}
		// Some runs open and close much, some tell all symbols.
		often := 4 + r.below(60)
		for range 1500 {
			step(t, &r, l, &p, often)
		}
		for _, id := range []uint32{0, 1, 2, 7, math.MaxUint32} {
			left(t, l, id, p.left(id))
			if got, want := l.Close(id), p.close(id); got != want {
				t.Fatalf("Close(%d): %v, not %v", id, got, want)
			}
		}
	}
}

// step asks both for one call, and for the same answer.
func step(t *testing.T, r *draw, l *ledger.Ledger, p *plain, often int) {
	t.Helper()
	id := r.id()
	switch r.below(often) {
	case 0:
		if got, want := l.Close(id), p.close(id); got != want {
			t.Fatalf("Close(%d): %v, not %v", id, got, want)
		}
	case 1:
		k := r.k()
		if got, want := l.Open(id, k), p.open(id, k); got != want {
			t.Fatalf("Open(%d, %d): %v, not %v", id, k, got, want)
		}
	case 2:
		left(t, l, id, p.left(id))
	default:
		got, ok := l.Next(id)
		if want, yes := p.next(id); got != want || ok != yes {
			t.Fatalf("Next(%d): %d, %v, not %d, %v", id, got, ok, want, yes)
		}
	}
}
