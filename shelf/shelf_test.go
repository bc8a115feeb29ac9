package shelf_test

import (
	"bytes"
	"math"
	"reflect"
	"runtime"
	"slices"
	"testing"

	"girandole/api"
	"girandole/basin"
	"girandole/field"
	"girandole/fount"
	"girandole/shelf"
)

// ints are ints at which something turns.
var ints = []int{math.MinInt, math.MinInt + 1, -1<<48 + 5, math.MinInt32 - 1, math.MinInt32, -65536, -256, -65, -16, -2, -1, 0, 1, 2, 15, 16, 17, 32, 63, 64, 65, 255, 256, 65535, 65536, 65537, math.MaxInt32, math.MaxUint32, 1 << 32, 1<<32 + 1, 1<<48 + 5, math.MaxInt - 1, math.MaxInt}

// ids are IDs at which something turns, rising.
var ids = []uint32{0, 1, 2, 255, 256, 65535, 65536, math.MaxInt32, math.MaxInt32 + 1, math.MaxUint32 - 1, math.MaxUint32}

// draw is a run of numbers that is the same each time.
type draw uint32

func (r *draw) next() uint32 {
	*r = *r*1664525 + 1013904223
	return uint32(*r)>>16 | uint32(*r)<<16
}

// below is one from 0 to n - 1.
func (r *draw) below(n int) int { return int(r.next() % uint32(n)) }

// id is one of a few.
func (r *draw) id() uint32 { return few[r.below(len(few))] }

// few are the IDs of the drawn runs.
var few = []uint32{0, 1, 2, 3, 5, 8, 1 << 31, math.MaxUint32 - 1, math.MaxUint32}

// rank is mostly one of package api, now and then any int.
func (r *draw) rank() int {
	if r.below(8) == 0 {
		return ints[r.below(len(ints))]
	}
	return r.below(4)
}

// text is n bytes that tell one frame's text from another's.
func text(frame uint32, n int) []byte {
	b := make([]byte, n)
	for i := range b {
		b[i] = byte(uint32(i)*7+frame*31+frame>>8) | 1
	}
	return b
}

// symbolOf is the symbol of that text that the sender makes.
func symbolOf(t *testing.T, frame uint32, text []byte, symbol, id int) []byte {
	t.Helper()
	s, ok := fount.Symbol(field.New(), frame, text, symbol, id)
	if !ok {
		t.Fatalf("no symbol %d of %d bytes by %d", id, len(text), symbol)
	}
	return s
}

// of is a frame of which nothing else is known.
func of(id uint32, size int) api.Frame { return api.Frame{ID: id, Size: size} }

// fresh is an empty Shelf, where there must be one.
func fresh(t *testing.T, frames, bytes, symbol int) *shelf.Shelf {
	t.Helper()
	s, ok := shelf.New(field.New(), frames, bytes, symbol)
	if !ok || s == nil {
		t.Fatalf("New(f, %d, %d, %d): %v, %v", frames, bytes, symbol, s, ok)
	}
	has(t, s, 0)
	return s
}

// adds asks for a yes, and for who goes.
func adds(t *testing.T, s *shelf.Shelf, fr api.Frame, rank, id int, data []byte, gone ...uint32) {
	t.Helper()
	if fresh, l := s.Add(fr, rank, id, data); !fresh || !slices.Equal(l, gone) {
		t.Fatalf("Add(%d of %d bytes, rank %d, symbol %d): %v, %v go, not %v", fr.ID, fr.Size, rank, id, fresh, l, gone)
	}
}

// first asks for a yes to the first symbol of that frame's text.
func first(t *testing.T, s *shelf.Shelf, frame uint32, rank, size, symbol int, gone ...uint32) {
	t.Helper()
	adds(t, s, of(frame, size), rank, 0, symbolOf(t, frame, text(frame, size), symbol, 0), gone...)
}

// refuses asks for a no: nobody goes, and all is as it was.
func refuses(t *testing.T, s *shelf.Shelf, fr api.Frame, rank, id int, data []byte) {
	t.Helper()
	before := seen(s, fr.ID)
	if fresh, gone := s.Add(fr, rank, id, data); fresh || len(gone) > 0 {
		t.Fatalf("Add(%d of %d bytes, rank %d, symbol %d, %d bytes): %v, %v go", fr.ID, fr.Size, rank, id, len(data), fresh, gone)
	}
	if after := seen(s, fr.ID); !reflect.DeepEqual(after, before) {
		t.Fatalf("Add(%d of %d bytes, rank %d, symbol %d, %d bytes): %v became %v", fr.ID, fr.Size, rank, id, len(data), before, after)
	}
}

// full is a refusal of a first symbol that would be one, if there were room.
func full(t *testing.T, s *shelf.Shelf, frame uint32, rank, size, symbol int) {
	t.Helper()
	refuses(t, s, of(frame, size), rank, 0, symbolOf(t, frame, text(frame, size), symbol, 0))
}

// has asks for who is there, and how many bytes that is.
func has(t *testing.T, s *shelf.Shelf, bytes int, frames ...uint32) {
	t.Helper()
	if l := s.IDs(); !slices.Equal(l, frames) || s.Bytes() != bytes {
		t.Fatalf("%v are there, %d bytes, not %v, %d", l, s.Bytes(), frames, bytes)
	}
}

// wants asks that frame wants so many, some: then it has no text.
func wants(t *testing.T, s *shelf.Shelf, frame uint32, n int) {
	t.Helper()
	if got, is := s.Missing(frame); got != n || !is {
		t.Fatalf("Missing(%d): %d, %v, not %d", frame, got, is, n)
	}
	if p, ok := s.Payload(frame); p != nil || ok {
		t.Fatalf("Payload(%d): %x, %v", frame, p, ok)
	}
}

// tells asks that frame wants none and tells this text.
func tells(t *testing.T, s *shelf.Shelf, frame uint32, text []byte) {
	t.Helper()
	if got, is := s.Missing(frame); got != 0 || !is {
		t.Fatalf("Missing(%d): %d, %v", frame, got, is)
	}
	if p, ok := s.Payload(frame); !bytes.Equal(p, text) || !ok {
		t.Fatalf("Payload(%d): %x, %v, not %x", frame, p, ok, text)
	}
}

// absent asks for what is told of a frame that is not there.
func absent(t *testing.T, s *shelf.Shelf, frame uint32) {
	t.Helper()
	if got, is := s.Missing(frame); got != 0 || is {
		t.Fatalf("Missing(%d): %d, %v", frame, got, is)
	}
	if p, ok := s.Payload(frame); p != nil || ok {
		t.Fatalf("Payload(%d): %x, %v", frame, p, ok)
	}
	if s.Drop(frame) || s.Rank(frame, 0) || slices.Contains(s.IDs(), frame) {
		t.Fatalf("%d is there", frame)
	}
}

// ranks asks for a yes: frame has that rank now.
func ranks(t *testing.T, s *shelf.Shelf, frame uint32, rank int) {
	t.Helper()
	if !s.Rank(frame, rank) {
		t.Fatalf("Rank(%d, %d): no", frame, rank)
	}
}

// drops asks for a yes: frame was there, and is not any more.
func drops(t *testing.T, s *shelf.Shelf, frame uint32) {
	t.Helper()
	if !s.Drop(frame) {
		t.Fatalf("Drop(%d): no", frame)
	}
	absent(t, s, frame)
}

// view is what a Shelf tells of all that are there, and of some that may not be.
type view struct {
	ids     []uint32
	bytes   int
	frames  []uint32
	missing []int
	there   []bool
	texts   []string
	solved  []bool
}

// seen asks s for it all.
func seen(s *shelf.Shelf, others ...uint32) view {
	v := view{ids: s.IDs(), bytes: s.Bytes()}
	v.frames = slices.Concat(v.ids, others)
	for _, frame := range v.frames {
		n, is := s.Missing(frame)
		p, ok := s.Payload(frame)
		v.missing, v.there, v.texts, v.solved = append(v.missing, n), append(v.there, is), append(v.texts, string(p)), append(v.solved, ok)
	}
	return v
}

// one is a frame that is there.
type one struct {
	id          uint32
	rank, bytes int
	basin       *basin.Basin
}

// plain is a list of those that are there, that does what the chapter's words say.
type plain struct {
	frames, bytes, symbol int
	list                  []one
}

func (p *plain) place(frame uint32) int {
	return slices.IndexFunc(p.list, func(o one) bool { return o.id == frame })
}

// worse tells whether a goes ahead of b.
func worse(a, b one) bool { return a.rank > b.rank || a.rank == b.rank && a.id > b.id }

// total is how many bytes they have.
func total(l []one) (n int) {
	for _, o := range l {
		n += o.bytes
	}
	return n
}

func (p *plain) add(fr api.Frame, rank, id int, data []byte) (bool, []uint32) {
	if at := p.place(fr.ID); at >= 0 {
		return p.list[at].basin.Add(id, data), nil
	}
	b, ok := basin.New(field.New(), fr.ID, fr.Size, p.symbol)
	if !ok || !b.Add(id, data) {
		return false, nil
	}
	o := one{fr.ID, rank, (fr.Size + p.symbol - 1) / p.symbol * p.symbol, b}
	left, gone := slices.Clone(p.list), []uint32(nil)
	for len(left) >= p.frames || total(left)+o.bytes > p.bytes {
		worst := 0
		for at := range left {
			if worse(left[at], left[worst]) {
				worst = at
			}
		}
		if len(left) == 0 || worse(o, left[worst]) {
			return false, nil
		}
		gone = append(gone, left[worst].id)
		left = slices.Delete(left, worst, worst+1)
	}
	p.list = append(left, o)
	return true, gone
}

func (p *plain) missing(frame uint32) (int, bool) {
	if at := p.place(frame); at >= 0 {
		return p.list[at].basin.Missing(), true
	}
	return 0, false
}

func (p *plain) payload(frame uint32) ([]byte, bool) {
	if at := p.place(frame); at >= 0 {
		return p.list[at].basin.Payload()
	}
	return nil, false
}

func (p *plain) drop(frame uint32) bool {
	at := p.place(frame)
	if at < 0 {
		return false
	}
	p.list = slices.Delete(p.list, at, at+1)
	return true
}

func (p *plain) rank(frame uint32, rank int) bool {
	at := p.place(frame)
	if at < 0 {
		return false
	}
	p.list[at].rank = rank
	return true
}

func (p *plain) ids() (l []uint32) {
	for _, frame := range few {
		if p.place(frame) >= 0 {
			l = append(l, frame)
		}
	}
	return l
}

// Examples: a shelf of one, an I behind a B: the B goes.
func TestExample(t *testing.T) {
	for _, x := range [][2]uint32{{1, 2}, {2, 1}} {
		s := fresh(t, 1, 1000, 4)
		first(t, s, x[0], api.RankFree, 10, 4)
		has(t, s, 12, x[0])
		first(t, s, x[1], api.RankI, 6, 4, x[0])
		has(t, s, 8, x[1])
		absent(t, s, x[0])
	}
}

// The numbers of the issue are those of package api.
func TestNumbers(t *testing.T) {
	if api.MaxShelf != 16 || api.MaxBytes != 65536 || api.MaxSymbol != 64 || api.MaxSource != 32 || api.MaxRepair != 64 {
		t.Fatal("other numbers")
	}
}

// P24.1 New: yes for each of them from 1 to the most that it may be: it is empty.
func TestNew(t *testing.T) {
	for frames := 1; frames <= 16; frames++ {
		for symbol := 1; symbol <= 64; symbol++ {
			for _, bytes := range []int{1, 2, 63, 64, 65, 2048, 32767, 32768, 65535, 65536} {
				fresh(t, frames, bytes, symbol)
			}
		}
	}
	for bytes := 1; bytes <= 65536; bytes += 97 {
		fresh(t, 1, bytes, 1)
	}
}

// P24.1 New: no, and no Shelf, for each of them that it may not be, alone or beside another one.
func TestWhatMayNotBe(t *testing.T) {
	f := field.New()
	no := func(f *field.Field, frames, bytes, symbol int) {
		t.Helper()
		if s, ok := shelf.New(f, frames, bytes, symbol); s != nil || ok {
			t.Fatalf("New(%v, %d, %d, %d): %v, %v", f != nil, frames, bytes, symbol, s, ok)
		}
	}
	for _, n := range ints {
		for _, m := range []int{1, 16} {
			if n < 1 || n > 16 {
				no(f, n, m, m)
				no(f, n, 65536, 64)
				no(f, n, n, m)
				no(f, n, m, n)
				no(f, n, n, n)
			}
			if n < 1 || n > 65536 {
				no(f, m, n, m)
				no(f, 16, n, 64)
				no(f, m, n, n)
			}
			if n < 1 || n > 64 {
				no(f, m, m, n)
				no(f, 16, 65536, n)
			}
			no(nil, n, m, m)
			no(nil, m, n, m)
			no(nil, m, m, n)
		}
	}
	no(nil, 1, 1, 1)
	no(nil, 16, 65536, 64)
	no(f, 17, 65536, 64)
	no(f, 16, 65537, 64)
	no(f, 16, 65536, 65)
}

// P24.1 Add: a frame that is there: as its basin answers, with nobody gone, in whatever order its symbols come.
func TestOneThatIsThere(t *testing.T) {
	r := draw(3)
	for _, k := range []int{1, 2, 3, 9, 31, 32} {
		for _, frame := range ids {
			b, fr := text(frame, k*3-1), of(frame, k*3-1)
			s := fresh(t, 1, 96, 3)
			within, _ := basin.New(field.New(), frame, fr.Size, 3)
			adds(t, s, fr, 1, k, symbolOf(t, frame, b, 3, k))
			within.Add(k, symbolOf(t, frame, b, 3, k))
			for n := 0; n < 60 || within.Missing() > 0; n++ {
				id := r.below(k + 64)
				data := symbolOf(t, frame, b, 3, id)
				if within.Add(id, data) {
					adds(t, s, fr, 1, id, data)
				} else {
					refuses(t, s, fr, 1, id, data)
				}
				refuses(t, s, fr, 1, id, data)
				refuses(t, s, fr, 1, id, []byte("one"))
				for _, other := range [][]byte{nil, {}, data[:1], data[:2], append(slices.Clone(data), 0), make([]byte, 64)} {
					refuses(t, s, fr, 1, r.below(k+64), other)
				}
				for _, id := range []int{math.MinInt, -1, k + 64, k + 65, 1 << 32, math.MaxInt} {
					refuses(t, s, fr, 1, id, data)
				}
				if n := within.Missing(); n > 0 {
					wants(t, s, frame, n)
				}
			}
			tells(t, s, frame, b)
			has(t, s, k*3, frame)
		}
	}
}

// P24.1 Add: whatever Size says of a frame that is there: its Bytes and its text stay as they were.
func TestSizeOfOneThatIsThere(t *testing.T) {
	for _, size := range slices.Concat(ints, []int{4, 8, 9, 12, 13, 128, 129}) {
		b := text(7, 10)
		s := fresh(t, 1, 12, 4)
		first(t, s, 7, 1, 10, 4)
		adds(t, s, of(7, size), 1, 66, symbolOf(t, 7, b, 4, 66))
		has(t, s, 12, 7)
		wants(t, s, 7, 1)
		refuses(t, s, of(7, size), 1, 66, symbolOf(t, 7, b, 4, 66))
		refuses(t, s, of(7, size), 1, 67, make([]byte, 4))
		adds(t, s, of(7, size), 1, 2, symbolOf(t, 7, b, 4, 2))
		has(t, s, 12, 7)
		tells(t, s, 7, b)
	}
}

// P24.1 Add: whatever rank it says of a frame that is there: its own stays, and by that one it goes, or not.
func TestRankOfOneThatIsThere(t *testing.T) {
	for _, rank := range ints {
		s := fresh(t, 3, 1000, 4)
		for frame := uint32(1); frame <= 3; frame++ {
			first(t, s, frame, int(frame), 20, 4)
		}
		adds(t, s, of(2, 20), rank, 1, symbolOf(t, 2, text(2, 20), 4, 1))
		refuses(t, s, of(2, 20), rank, 1, symbolOf(t, 2, text(2, 20), 4, 1))
		full(t, s, 4, 3, 20, 4)
		first(t, s, 5, 2, 20, 4, 3)
		full(t, s, 6, 2, 20, 4)
		first(t, s, 6, 1, 20, 4, 5)
		first(t, s, 7, 1, 20, 4, 2)
		has(t, s, 60, 1, 6, 7)
	}
}

// P24.1 Add: a frame whose basin would not be changes nothing: not of an empty Shelf, and not of a full one of which all are worse.
func TestWhereItsBasinWouldNotBe(t *testing.T) {
	for _, symbol := range []int{1, 4, 64} {
		for _, size := range append(slices.Clone(ints), 32*symbol+1, 32*symbol+2, 33*symbol) {
			if size >= 1 && size <= 32*symbol {
				continue
			}
			s := fresh(t, 2, 65536, symbol)
			for n := range 3 {
				for _, id := range []int{0, 1, 31, 32, 63} {
					refuses(t, s, of(9, size), -5, id, make([]byte, symbol))
					refuses(t, s, of(9, size), 5, id, make([]byte, symbol))
				}
				absent(t, s, 9)
				if n < 2 {
					first(t, s, uint32(10+n), 3, 2*symbol, symbol)
				}
			}
			has(t, s, 4*symbol, 10, 11)
		}
	}
}

// P24.1 Add: so does one whose basin would say no: data of another length, an id that may not be.
func TestWhereItsBasinWouldSayNo(t *testing.T) {
	for _, symbol := range []int{1, 2, 5, 64} {
		for _, k := range []int{1, 2, 31, 32} {
			fr, b := of(9, k*symbol), text(9, k*symbol)
			s := fresh(t, 2, 65536, symbol)
			for n := range 3 {
				for _, id := range []int{math.MinInt, math.MinInt + 1, -1 << 32, -2, -1, k + 64, k + 65, 128, 65536, 1 << 32, 1<<32 + 1, math.MaxInt - 1, math.MaxInt} {
					refuses(t, s, fr, -5, id, b[:symbol])
				}
				for _, id := range []int{0, k - 1, k, k + 63} {
					for _, l := range []int{0, symbol - 1, symbol + 1, 2 * symbol, 200} {
						if l != symbol {
							refuses(t, s, fr, -5, id, make([]byte, l))
						}
					}
					refuses(t, s, fr, -5, id, nil)
				}
				absent(t, s, 9)
				if n < 2 {
					first(t, s, uint32(10+n), 3, 2*symbol, symbol)
				}
			}
			has(t, s, 4*symbol, 10, 11)
		}
	}
}

// P24.1 Add: yes where there is room, with the first id, the last one that may be, and each between.
func TestEachFirstSymbol(t *testing.T) {
	for k := 1; k <= 32; k++ {
		for _, frame := range []uint32{0, 77, math.MaxUint32} {
			b := text(frame, k*2-1)
			for id := range k + 64 {
				s := fresh(t, 1, 64, 2)
				adds(t, s, of(frame, len(b)), 0, id, symbolOf(t, frame, b, 2, id))
				has(t, s, 2*k, frame)
				if k > 1 {
					wants(t, s, frame, k-1)
				} else {
					tells(t, s, frame, b)
				}
			}
		}
	}
}

// P24.1 Add: what else is known of a frame turns nothing, whatever it is.
func TestNothingElseOfAFrameIsAsked(t *testing.T) {
	for _, n := range ints {
		s := fresh(t, 2, 1000, 4)
		fr := api.Frame{ID: 3, Kind: n, Refs: []uint32{3, 9, 3, 3, 3, 3}, Size: 7, Play: int64(n), Deadline: int64(-n)}
		adds(t, s, fr, 2, 0, []byte("abcd"))
		fr.Refs, fr.Kind, fr.Play = nil, 0, 0
		adds(t, s, fr, 2, 1, []byte("efg\x00"))
		tells(t, s, 3, []byte("abcdefg"))
		has(t, s, 8, 3)
	}
}

// P24.1 Add, room: fewer than frames frames.
func TestRoomForFrames(t *testing.T) {
	for frames := 1; frames <= 16; frames++ {
		s := fresh(t, frames, 65536, 64)
		var there []uint32
		for n := range frames {
			has(t, s, 2048*n, there...)
			first(t, s, uint32(n), 1, 2048, 64)
			there = append(there, uint32(n))
		}
		has(t, s, 2048*frames, there...)
		full(t, s, 16, 1, 1, 64)
		full(t, s, 16, 2, 1, 64)
		first(t, s, 16, 0, 1, 64, uint32(frames-1))
		has(t, s, 2048*(frames-1)+64, append(there[:frames-1], 16)...)
	}
}

// P24.1 Add, room: the sum of Bytes just bytes is room, one more is not; Bytes, not Size.
func TestRoomForBytes(t *testing.T) {
	for _, symbol := range []int{1, 3, 10, 64} {
		for k := 1; k <= 32; k++ {
			for _, size := range []int{k * symbol, (k-1)*symbol + 1} {
				all := (3 + k) * symbol
				s := fresh(t, 16, all, symbol)
				first(t, s, 1, 1, symbol, symbol)
				first(t, s, 2, 1, 2*symbol, symbol)
				first(t, s, 3, 1, size, symbol)
				has(t, s, all, 1, 2, 3)
				full(t, s, 4, 1, 1, symbol)
				s = fresh(t, 16, all-1, symbol)
				first(t, s, 1, 1, symbol, symbol)
				first(t, s, 2, 1, 2*symbol, symbol)
				full(t, s, 3, 1, size, symbol)
				has(t, s, 3*symbol, 1, 2)
			}
		}
	}
}

// P24.1 Add, room: a frame alone has room where its Bytes are just bytes; one that is greater than the Shelf has none, whoever is there.
func TestGreaterThanTheShelf(t *testing.T) {
	for k := 1; k <= 32; k++ {
		s := fresh(t, 2, k*5, 5)
		first(t, s, 8, 3, 5*k-3, 5)
		has(t, s, 5*k, 8)
		s = fresh(t, 2, k*5-1, 5)
		full(t, s, 8, -1, 5*k-4, 5)
		has(t, s, 0)
		if k > 1 {
			first(t, s, 9, 3, 5, 5)
			full(t, s, 8, -1, 5*k, 5)
			has(t, s, 5, 9)
		}
	}
}

// P24.1 Add, who goes: for the number alone the worst one: of the greatest rank, of one rank the greatest ID.
func TestTheWorstOneGoes(t *testing.T) {
	for _, x := range []struct {
		ids   []uint32
		ranks []int
		gone  uint32
	}{
		{[]uint32{1, 2, 3}, []int{1, 1, 1}, 3}, {[]uint32{3, 2, 1}, []int{1, 1, 1}, 3}, {[]uint32{2, 3, 1}, []int{1, 1, 1}, 3},
		{[]uint32{1, 2, 3}, []int{2, 1, 1}, 1}, {[]uint32{1, 2, 3}, []int{1, 2, 1}, 2}, {[]uint32{1, 2, 3}, []int{1, 1, 2}, 3},
		{[]uint32{1, 2, 3}, []int{3, 2, 1}, 1}, {[]uint32{3, 2, 1}, []int{2, 2, 1}, 3}, {[]uint32{2, 3, 1}, []int{2, 1, 2}, 2},
		{[]uint32{1, 2, 3}, []int{math.MaxInt, 3, math.MinInt}, 1}, {[]uint32{1, 2, 3}, []int{math.MinInt, -1, -2}, 2},
		{[]uint32{0, math.MaxUint32, 1 << 31}, []int{0, 0, 0}, math.MaxUint32}, {[]uint32{0, math.MaxUint32, 1 << 31}, []int{2, 1, 1}, 0}, {[]uint32{0, math.MaxInt32, 1 << 31}, []int{1, 1, 1}, 1 << 31},
	} {
		s := fresh(t, 3, 65536, 4)
		for n, id := range x.ids {
			first(t, s, id, x.ranks[n], 12, 4)
		}
		first(t, s, 9, math.MinInt, 4, 4, x.gone)
		stay := slices.DeleteFunc(append(x.ids, 9), func(id uint32) bool { return id == x.gone })
		slices.Sort(stay)
		has(t, s, 28, stay...)
		absent(t, s, x.gone)
	}
}

// P24.1 Add, who goes: only one that is worse: of a greater rank, whatever its ID; of one rank, of a greater ID.
func TestOnlyWhoIsWorseGoes(t *testing.T) {
	for there := -3; there <= 6; there++ {
		for rank := -3; rank <= 6; rank++ {
			for _, id := range ids {
				for _, x := range ids {
					if id == x {
						continue
					}
					s := fresh(t, 1, 64, 4)
					adds(t, s, of(id, 4), there, 0, []byte("abcd"))
					if there > rank || there == rank && id > x {
						adds(t, s, of(x, 4), rank, 0, []byte("abcd"), id)
						has(t, s, 4, x)
					} else {
						refuses(t, s, of(x, 4), rank, 0, []byte("abcd"))
						has(t, s, 4, id)
					}
				}
			}
		}
	}
}

// P24.1 Add, who goes: by any rank, from the least int to the greatest.
func TestWhoGoesByAnyRank(t *testing.T) {
	for i, there := range ints {
		for j, rank := range ints {
			s := fresh(t, 1, 64, 4)
			adds(t, s, of(5, 4), there, 0, []byte("abcd"))
			if i > j {
				adds(t, s, of(6, 4), rank, 0, []byte("abcd"), 5)
			} else {
				refuses(t, s, of(6, 4), rank, 0, []byte("abcd"))
			}
			if i >= j {
				s = fresh(t, 1, 64, 4)
				adds(t, s, of(5, 4), there, 0, []byte("abcd"))
				adds(t, s, of(4, 4), rank, 0, []byte("abcd"), 5)
			}
		}
	}
}

// shelves has six frames, of 10, 20, .. 60 bytes, of two ranks; all are there in its 210 bytes.
func shelves(t *testing.T, frames int) *shelf.Shelf {
	t.Helper()
	s := fresh(t, frames, 210, 10)
	for _, id := range []uint32{4, 1, 6, 2, 5, 3} {
		first(t, s, id, 1+int(id%2), int(id)*10, 10)
	}
	has(t, s, 210, 1, 2, 3, 4, 5, 6)
	return s
}

// P24.1 Add, who goes: one behind the other, as long as there is no room, and no longer; gone tells them so. From the worst on they are 5, 3, 1 of rank 2, then 6, 4, 2 of rank 1.
func TestOneBehindTheOther(t *testing.T) {
	order := []uint32{5, 3, 1, 6, 4, 2}
	for bytes := 10; bytes <= 210; bytes += 10 {
		for _, frames := range []int{6, 7, 16} {
			s := shelves(t, frames)
			n, room := 0, 0
			for n == 0 || room < bytes {
				room += int(order[n]) * 10
				n++
			}
			adds(t, s, of(9, bytes), 0, 0, make([]byte, 10), order[:n]...)
			stay := append(slices.Clone(order[n:]), 9)
			slices.Sort(stay)
			has(t, s, 210-room+bytes, stay...)
			for _, id := range order[:n] {
				absent(t, s, id)
			}
		}
	}
}

// P24.1 Add, who goes: for the number one is enough, where there are bytes for it; the bytes that are free already count.
func TestNoLongerThanThereIsNoRoom(t *testing.T) {
	s := fresh(t, 6, 240, 10)
	for id := uint32(1); id <= 6; id++ {
		first(t, s, id, 3, int(id)*10, 10)
	}
	first(t, s, 7, 2, 90, 10, 6)
	has(t, s, 240, 1, 2, 3, 4, 5, 7)
	s = fresh(t, 7, 240, 10)
	for id := uint32(1); id <= 6; id++ {
		first(t, s, id, 3, int(id)*10, 10)
	}
	first(t, s, 7, 2, 30, 10)
	has(t, s, 240, 1, 2, 3, 4, 5, 6, 7)
	first(t, s, 8, 2, 10, 10, 6)
	has(t, s, 190, 1, 2, 3, 4, 5, 7, 8)
	s = fresh(t, 7, 240, 10)
	for id := uint32(1); id <= 6; id++ {
		first(t, s, id, 3, int(id)*10, 10)
	}
	first(t, s, 7, 2, 40, 10, 6)
	has(t, s, 190, 1, 2, 3, 4, 5, 7)
}

// P24.1 Add, who goes: no room even so: those that are worse don't go either, and all is as it was.
func TestNobodyGoesForNothing(t *testing.T) {
	for bytes := 10; bytes <= 320; bytes += 10 {
		for _, x := range []struct {
			id   uint32
			rank int
			room int
		}{{9, 3, 0}, {9, 2, 0}, {0, 2, 90}, {2, 2, 80}, {4, 2, 50}, {9, 1, 90}, {5, 1, 100}, {3, 1, 160}, {0, 1, 210}, {9, 0, 210}} {
			s := shelves(t, 6)
			// Room is what those that are worse leave; whoever is there itself is dropped ahead of it.
			if s.Drop(x.id) {
				x.room += int(x.id) * 10
			}
			order := slices.DeleteFunc([]uint32{5, 3, 1, 6, 4, 2}, func(id uint32) bool { return id == x.id })
			if bytes > x.room {
				refuses(t, s, of(x.id, bytes), x.rank, 3, make([]byte, 10))
				for _, id := range order {
					drops(t, s, id)
				}
				continue
			}
			n, left := 0, 210
			if len(order) < 6 {
				left -= int(x.id) * 10
			}
			for len(order)-n >= 6 || left+bytes > 210 {
				left -= int(order[n]) * 10
				n++
			}
			adds(t, s, of(x.id, bytes), x.rank, 3, make([]byte, 10), order[:n]...)
		}
	}
}

// P24.1 Add, who goes: a frame that was refused for room leaves the ranks as they were: the next one finds the same order.
func TestARefusalTurnsNoOrder(t *testing.T) {
	s := shelves(t, 6)
	for range 5 {
		full(t, s, 9, 2, 10, 10)
		full(t, s, 9, 1, 100, 10)
		full(t, s, 9, 0, 220, 10)
		refuses(t, s, of(9, 10), 0, 75, make([]byte, 10))
	}
	for _, id := range []uint32{5, 3, 1, 6, 4, 2} {
		first(t, s, 10+id, 0, 10, 10, id)
	}
	has(t, s, 60, 11, 12, 13, 14, 15, 16)
}

// P24.1 Add: a frame that went may come back, and begins anew: with another size and rank too.
func TestWhoWentMayComeBack(t *testing.T) {
	s := fresh(t, 1, 100, 4)
	for n := range 20 {
		b := text(8, 9+n)
		first(t, s, 8, 2, len(b), 4)
		adds(t, s, of(8, len(b)), 2, 1, symbolOf(t, 8, b, 4, 1))
		first(t, s, 9, 1, 4, 4, 8)
		absent(t, s, 8)
		full(t, s, 8, 2, 10, 4)
		first(t, s, 8, 0, len(b), 4, 9)
		k := (len(b) + 3) / 4
		wants(t, s, 8, k-1)
		for id := 1; id < k; id++ {
			adds(t, s, of(8, len(b)), 0, id, symbolOf(t, 8, b, 4, id))
		}
		tells(t, s, 8, b)
		full(t, s, 9, 0, 4, 4)
		drops(t, s, 8)
	}
}

// P24.2 Missing, Payload: one less behind each symbol that says more, as before behind one that does not; the text as soon as none is wanted, and at each call from then on.
func TestMissingAndPayload(t *testing.T) {
	r := draw(9)
	for k := 1; k <= 32; k++ {
		for _, size := range []int{k * 5, k*5 - 1, k*5 - 4} {
			s := fresh(t, 2, 65536, 5)
			frame := r.next()
			b := text(frame, size)
			absent(t, s, frame)
			first(t, s, frame^1, 0, 10, 5)
			for id := k - 1; id >= 0; id-- {
				data := symbolOf(t, frame, b, 5, id)
				adds(t, s, of(frame, size), 1, id, data)
				refuses(t, s, of(frame, size), 1, id, data)
				refuses(t, s, of(frame, size), 1, k+64, data)
				if id > 0 {
					wants(t, s, frame, id)
					wants(t, s, frame, id)
				}
			}
			tells(t, s, frame, b)
			for id := range k + 64 {
				refuses(t, s, of(frame, size), 1, id, symbolOf(t, frame, b, 5, id))
			}
			tells(t, s, frame, b)
			wants(t, s, frame^1, 1)
			absent(t, s, frame^2)
		}
	}
}

// P24.2: each frame has its own symbols: they come mixed, and each text is its own.
func TestEachFrameHasItsOwn(t *testing.T) {
	s := fresh(t, 16, 65536, 4)
	for id := 7; id >= 0; id-- {
		for n := range 16 {
			frame := uint32(n) * 0x11111111
			adds(t, s, of(frame, 30), n%4, id+n, symbolOf(t, frame, text(frame, 30), 4, id+n))
			if id > 0 {
				wants(t, s, frame, id)
			}
		}
	}
	for n := range 16 {
		frame := uint32(n) * 0x11111111
		tells(t, s, frame, text(frame, 30))
	}
	if s.Bytes() != 16*32 {
		t.Fatal(s.Bytes())
	}
}

// P24.2 Drop: yes once, no the second time and of one that was never there; behind it there is room again, and the others stay.
func TestDrop(t *testing.T) {
	for _, gone := range []uint32{1, 2, 3, 4, 5, 6} {
		s := shelves(t, 6)
		v := seen(s)
		absent(t, s, 0)
		absent(t, s, 7)
		full(t, s, 7, 2, 10, 10)
		if !reflect.DeepEqual(seen(s), v) {
			t.Fatal("Drop of one that was never there")
		}
		drops(t, s, gone)
		others := slices.DeleteFunc([]uint32{1, 2, 3, 4, 5, 6}, func(id uint32) bool { return id == gone })
		has(t, s, 210-int(gone)*10, others...)
		full(t, s, 7, 3, int(gone)*10+10, 10)
		first(t, s, 7, 3, int(gone)*10, 10)
		has(t, s, 210, append(others, 7)...)
		absent(t, s, gone)
	}
	s := fresh(t, 1, 64, 1)
	for _, id := range ids {
		absent(t, s, id)
		first(t, s, id, 1, 1, 1)
		tells(t, s, id, text(id, 1))
		drops(t, s, id)
		has(t, s, 0)
	}
}

// P24.2 IDs: rising, in whatever order and of whatever rank they came.
func TestIDs(t *testing.T) {
	r := draw(4)
	for range 200 {
		s := fresh(t, 16, 65536, 4)
		var there []uint32
		for _, n := range r.order(len(ids)) {
			first(t, s, ids[n], r.rank(), 4, 4)
			there = append(there, ids[n])
			slices.Sort(there)
			has(t, s, 4*len(there), there...)
		}
		has(t, s, 4*len(ids), ids...)
		for _, n := range r.order(len(ids)) {
			ranks(t, s, ids[n], r.rank())
			has(t, s, 4*len(ids), ids...)
		}
		for _, n := range r.order(len(ids)) {
			drops(t, s, ids[n])
			there = slices.DeleteFunc(there, func(id uint32) bool { return id == ids[n] })
			has(t, s, 4*len(there), there...)
		}
	}
}

// order is the numbers from 0 to n - 1, mixed.
func (r *draw) order(n int) []int {
	l := make([]int, n)
	for i := range l {
		j := r.below(i + 1)
		l[i], l[j] = l[j], i
	}
	return l
}

// P24.2 Rank: yes for one that is there, no for another; from then on it goes, or stays, by the new rank.
func TestRank(t *testing.T) {
	for _, rank := range ints {
		s := shelves(t, 6)
		v := seen(s, 7)
		if s.Rank(0, rank) || s.Rank(7, rank) || s.Rank(math.MaxUint32, rank) {
			t.Fatalf("Rank(.., %d) of one that is not there", rank)
		}
		ranks(t, s, 4, rank)
		if !reflect.DeepEqual(seen(s, 7), v) {
			t.Fatalf("Rank(4, %d) turned what is told", rank)
		}
		// Those of rank 2 are 5, 3, 1, those of rank 1 are 6, 2: each goes in its turn, and it by its new rank.
		order := []uint32{5, 3, 1, 6, 2}
		at := 0
		switch {
		case rank > 2:
		case rank == 2:
			at = 1
		case rank == 1:
			at = 4
		default:
			at = 5
		}
		for n, id := range slices.Insert(order, at, 4) {
			if rank == math.MinInt && id == 4 {
				full(t, s, 20, math.MinInt, 10, 10)
				first(t, s, 0, math.MinInt, 10, 10, 15)
				break
			}
			first(t, s, 11+uint32(n), math.MinInt, 10, 10, id)
		}
	}
}

// P24.2 Rank: each frame by its last rank, whatever it was ahead; the same one again turns nothing.
func TestRankAgainAndAgain(t *testing.T) {
	r := draw(8)
	for range 300 {
		s := fresh(t, 5, 65536, 4)
		p := plain{frames: 5, bytes: 65536, symbol: 4}
		for _, n := range r.order(5) {
			first(t, s, few[n], 1, 8, 4)
			p.add(of(few[n], 8), 1, 0, make([]byte, 4))
		}
		for range r.below(20) {
			id, rank := few[r.below(5)], r.rank()
			ranks(t, s, id, rank)
			p.rank(id, rank)
			ranks(t, s, id, rank)
		}
		for n := range uint32(6) {
			rank := r.rank()
			fresh, gone := s.Add(of(10+n, 4), rank, 0, []byte("abcd"))
			if yes, l := p.add(of(10+n, 4), rank, 0, []byte("abcd")); fresh != yes || !slices.Equal(gone, l) {
				t.Fatalf("%v, %v go, not %v, %v", fresh, gone, yes, l)
			}
		}
	}
}

// P24.2 Rank: a frame that comes anew has the rank that it comes with, not the one that it had.
func TestRankIsNotKept(t *testing.T) {
	s := fresh(t, 1, 64, 4)
	first(t, s, 5, 1, 4, 4)
	ranks(t, s, 5, -7)
	drops(t, s, 5)
	first(t, s, 5, 1, 4, 4)
	first(t, s, 6, 0, 4, 4, 5)
	ranks(t, s, 6, 9)
	first(t, s, 5, 8, 4, 4, 6)
	first(t, s, 4, 8, 4, 4, 5)
}

// P24.2: of a nil Shelf: no, nothing, 0; so of one that New did not make.
func TestNoShelf(t *testing.T) {
	for name, s := range map[string]*shelf.Shelf{"nil": nil, "unmade": new(shelf.Shelf)} {
		for _, frame := range ids {
			for _, n := range ints {
				for _, data := range [][]byte{nil, {}, {1}, make([]byte, 4), make([]byte, 64)} {
					if fresh, gone := s.Add(of(frame, n), n, n, data); fresh || gone != nil {
						t.Fatalf("%s: Add: %v, %v", name, fresh, gone)
					}
					if fresh, gone := s.Add(of(frame, 4), 0, 0, data); fresh || gone != nil {
						t.Fatalf("%s: Add: %v, %v", name, fresh, gone)
					}
				}
				if s.Rank(frame, n) {
					t.Fatalf("%s: Rank(%d, %d)", name, frame, n)
				}
			}
			absent(t, s, frame)
		}
		if l := s.IDs(); len(l) != 0 || s.Bytes() != 0 {
			t.Fatalf("%s: IDs: %v, Bytes: %d", name, l, s.Bytes())
		}
	}
}

// R1: a Field that its New did not make is none to reckon with: no frame is there ever.
func TestAFieldThatIsNotMade(t *testing.T) {
	s, _ := shelf.New(new(field.Field), 16, 65536, 4)
	for _, id := range []int{0, 1, 2, 65} {
		if fresh, gone := s.Add(of(1, 8), 0, id, []byte("abcd")); fresh || gone != nil {
			t.Fatalf("Add: %v, %v", fresh, gone)
		}
	}
	absent(t, s, 1)
	has(t, s, 0)
}

// R3: data, refs and the Field are neither changed nor kept, spare room too.
func TestWhatIsHandedInIsNeitherChangedNorKept(t *testing.T) {
	f := field.New()
	before := *f
	s, _ := shelf.New(f, 2, 100, 5)
	first(t, s, 1, 0, 10, 5)
	if *f != before {
		t.Fatal("the Field was changed")
	}
	*f = field.Field{}
	b := text(2, 14)
	refs := []uint32{1, 7, 7}
	for n, id := range []int{2, 66, 0} {
		under := slices.Concat(symbolOf(t, 2, b, 5, id), bytes.Repeat([]byte{0xEE}, 9))
		was := bytes.Clone(under)
		fr := api.Frame{ID: 2, Size: 14, Refs: refs[:1]}
		adds(t, s, fr, 1, id, under[:5])
		refuses(t, s, fr, 1, id, under[:5])
		refuses(t, s, fr, 1, 1, under[:6])
		refuses(t, s, api.Frame{ID: 3, Size: 14, Refs: refs[:1]}, 1, id, under[:5])
		if !bytes.Equal(under, was) || !slices.Equal(refs, []uint32{1, 7, 7}) {
			t.Fatalf("changed to %x, %v", under, refs)
		}
		clear(under)
		if n < 2 {
			wants(t, s, 2, 2-n)
		}
	}
	tells(t, s, 2, b)
}

// R3: what is told is new memory each time: gone, IDs, Payload, spare room too.
func TestWhatIsToldIsNewMemory(t *testing.T) {
	s := shelves(t, 6)
	for _, x := range []struct {
		id   uint32
		gone []uint32
	}{{11, []uint32{5, 3}}, {12, []uint32{1, 6}}} {
		fresh, gone := s.Add(of(x.id, 70), 0, 0, text(x.id, 10))
		if !fresh || !slices.Equal(gone, x.gone) {
			t.Fatalf("%v, %v go, not %v", fresh, gone, x.gone)
		}
		spoil(gone)
	}
	has(t, s, 200, 2, 4, 11, 12)
	l, again := s.IDs(), s.IDs()
	spoil(l)
	if !slices.Equal(again, []uint32{2, 4, 11, 12}) {
		t.Fatalf("%v", again)
	}
	has(t, s, 200, 2, 4, 11, 12)
	b := text(2, 20)
	adds(t, s, of(2, 20), 1, 1, symbolOf(t, 2, b, 10, 1))
	p, _ := s.Payload(2)
	other, _ := s.Payload(2)
	for i := range p[:cap(p)] {
		p[:cap(p)][i] ^= 0xFF
	}
	if !bytes.Equal(other, b) {
		t.Fatalf("two answers share memory: %x", other)
	}
	tells(t, s, 2, b)
}

// spoil writes all over what was told.
func spoil(l []uint32) {
	l = l[:cap(l)]
	for i := range l {
		l[i] = 99
	}
}

// R3: what was told stays as it was, whatever is asked later.
func TestWhatWasToldStays(t *testing.T) {
	s := shelves(t, 6)
	_, gone := s.Add(of(11, 70), 0, 0, text(11, 10))
	l := s.IDs()
	adds(t, s, of(2, 20), 1, 1, symbolOf(t, 2, text(2, 20), 10, 1))
	p, _ := s.Payload(2)
	s.Rank(2, -1)
	first(t, s, 12, 0, 80, 10, 1, 6)
	first(t, s, 13, -3, 20, 10, 4)
	drops(t, s, 2)
	first(t, s, 2, -3, 10, 10)
	if !slices.Equal(gone, []uint32{5, 3}) || !slices.Equal(l, []uint32{1, 2, 4, 6, 11}) || !bytes.Equal(p, text(2, 20)) {
		t.Fatalf("%v, %v, %x", gone, l, p)
	}
}

// R4: each Shelf has its own frames, of one Field too.
func TestTwoShelvesSideBySide(t *testing.T) {
	f := field.New()
	a, _ := shelf.New(f, 2, 40, 4)
	b, _ := shelf.New(f, 1, 40, 4)
	first(t, a, 1, 2, 8, 4)
	has(t, b, 0)
	absent(t, b, 1)
	first(t, b, 1, 1, 16, 4)
	first(t, a, 2, 2, 8, 4)
	first(t, b, 2, 0, 16, 4, 1)
	has(t, a, 16, 1, 2)
	has(t, b, 16, 2)
	adds(t, a, of(2, 8), 0, 1, symbolOf(t, 2, text(2, 8), 4, 1))
	tells(t, a, 2, text(2, 8))
	wants(t, b, 2, 3)
	drops(t, b, 2)
	has(t, a, 16, 1, 2)
	first(t, a, 3, 1, 4, 4, 2)
	has(t, b, 0)
}

// LANGUAGE 8: nothing is kept of frames that went, were dropped or were refused: as many Shelves as these, each empty, need little.
func TestNothingIsKeptOfWhoIsNotThere(t *testing.T) {
	const many = 200
	data := make([]byte, 64)
	for name, run := range map[string]func(s *shelf.Shelf){
		"all for one": func(s *shelf.Shelf) {
			for id := range uint32(16) {
				s.Add(of(id, 128), 1, int(id), data)
			}
			s.Add(of(99, 2048), 0, 40, data)
			s.Drop(99)
		},
		"one for one": func(s *shelf.Shelf) {
			for id := range uint32(64) {
				s.Add(of(99-id, 128), 1, int(id), data)
			}
			for id := range uint32(100) {
				s.Drop(id)
			}
		},
		"refused": func(s *shelf.Shelf) {
			for id := range uint32(100) {
				s.Add(of(id, 2049-int(id)*20), 1, 100, data)
				s.Add(of(id, 2048), 1, int(id), data[:63])
			}
		},
		"dropped, the worst one first": func(s *shelf.Shelf) {
			for id := range uint32(16) {
				s.Add(of(id, 128), 1, int(id), data)
			}
			for id := range uint32(16) {
				s.Drop(15 - id)
			}
		},
	} {
		var l []*shelf.Shelf
		before := heap()
		for range many {
			s := fresh(t, 16, 2048, 64)
			run(s)
			has(t, s, 0)
			l = append(l, s)
		}
		if after := heap(); after > before+many*5000 {
			t.Errorf("%s: %d bytes are kept", name, after-before)
		}
		runtime.KeepAlive(l)
	}
}

// heap is how many bytes are kept.
func heap() uint64 {
	runtime.GC()
	var m runtime.MemStats
	runtime.ReadMemStats(&m)
	return m.HeapAlloc
}

// P24.1, P24.2 and 'What follows': drawn runs of all calls on a few frames, against a plain list; it is never fuller than it may be.
func TestDrawnRuns(t *testing.T) {
	for seed := range draw(250) {
		r := seed
		p := plain{frames: 1 + r.below(9), bytes: 1 + r.below(120), symbol: 1 + r.below(6)}
		if r.below(6) == 0 {
			p.frames, p.bytes = 1+r.below(16), 65536
		}
		s := fresh(t, p.frames, p.bytes, p.symbol)
		for range 400 {
			step(t, &r, s, &p)
			if len(s.IDs()) > p.frames || s.Bytes() > p.bytes {
				t.Fatalf("seed %d: it is too full: %v, %d bytes", seed, s.IDs(), s.Bytes())
			}
			has(t, s, total(p.list), p.ids()...)
			frame := r.id()
			same(t, s, &p, frame)
		}
		for _, frame := range few {
			same(t, s, &p, frame)
			if got, want := s.Drop(frame), p.drop(frame); got != want {
				t.Fatalf("Drop(%d): %v, not %v", frame, got, want)
			}
		}
		has(t, s, 0)
	}
}

// same asks both for a frame's symbols and text.
func same(t *testing.T, s *shelf.Shelf, p *plain, frame uint32) {
	t.Helper()
	n, is := s.Missing(frame)
	if want, yes := p.missing(frame); n != want || is != yes {
		t.Fatalf("Missing(%d): %d, %v, not %d, %v", frame, n, is, want, yes)
	}
	b, ok := s.Payload(frame)
	if want, yes := p.payload(frame); !bytes.Equal(b, want) || ok != yes {
		t.Fatalf("Payload(%d): %x, %v, not %x, %v", frame, b, ok, want, yes)
	}
}

// step asks both for one call that may turn something, and for the same answer.
func step(t *testing.T, r *draw, s *shelf.Shelf, p *plain) {
	t.Helper()
	frame := r.id()
	switch r.below(12) {
	case 0:
		if got, want := s.Drop(frame), p.drop(frame); got != want {
			t.Fatalf("Drop(%d): %v, not %v", frame, got, want)
		}
	case 1, 2:
		rank := r.rank()
		if got, want := s.Rank(frame, rank), p.rank(frame, rank); got != want {
			t.Fatalf("Rank(%d, %d): %v, not %v", frame, rank, got, want)
		}
	default:
		fr, rank, id, data := r.call(t, frame, p.symbol)
		fresh, gone := s.Add(fr, rank, id, data)
		if yes, l := p.add(fr, rank, id, data); fresh != yes || !slices.Equal(gone, l) {
			t.Fatalf("Add(%v, %d, %d, %x): %v, %v go, not %v, %v", fr, rank, id, data, fresh, gone, yes, l)
		}
	}
}

// call is what Add is handed: mostly a symbol of frame's one text, now and then what may not be.
func (r *draw) call(t *testing.T, frame uint32, symbol int) (fr api.Frame, rank, id int, data []byte) {
	t.Helper()
	size := 1 + int(frame*5%7)*symbol
	k := (size + symbol - 1) / symbol
	id = r.below(k + 64)
	if r.below(2) == 0 {
		id = r.below(k)
	}
	data = symbolOf(t, frame, text(frame, size), symbol, id)
	switch r.below(14) {
	case 0:
		size = ints[r.below(len(ints))]
	case 1:
		id = ints[r.below(len(ints))]
	case 2:
		data = data[:r.below(len(data)+1)]
	case 3:
		data = append(data, 0)
	case 4:
		size += r.below(5 * symbol)
	}
	return of(frame, size), r.rank(), id, data
}
