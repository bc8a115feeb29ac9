package packet_test

import (
	"bytes"
	"math"
	"testing"

	"girandole/api"
	"girandole/packet"
)

// How many bytes stand behind the Kind.
const (
	numbers     = 10 // ahead of a body
	reportBytes = 20
	nackBytes   = 6
	goneBytes   = 4
)

var kinds = []int{api.PackData, api.PackReport, api.PackNack, api.PackGone}

// others are Kinds that no packet has, those among them that a byte would take for one that it has.
var others = []int{
	0, 5, 6, 7, 8, 100, 127, 128, 254, 255, 256, 257, 258, 259, 260, 261, 512, 513, 1<<16 + 1, 1<<16 + 4, 1<<32 + 1, 1<<32 + 2, 1<<32 + 3, 1<<32 + 4,
	-1, -2, -3, -4, -5, -252, -253, -254, -255, -256, -65535, math.MaxInt, math.MaxInt - 255, math.MinInt, math.MinInt + 1, math.MinInt + 4,
}

// text is n bytes, none of them 0.
func text(n int) []byte {
	b := make([]byte, n)
	for i := range b {
		b[i] = byte(1 + i*7%255)
	}
	return b
}

// alike is n bytes that are all x.
func alike(n int, x byte) []byte { return bytes.Repeat([]byte{x}, n) }

// joined is the lists, one behind the other.
func joined(lists ...[]byte) []byte { return bytes.Join(lists, nil) }

// draw is a run of numbers that is the same each time.
type draw uint32

func (r *draw) next() uint32 {
	*r = *r*1664525 + 1013904223
	return uint32(*r)>>16 | uint32(*r)<<16
}

func (r *draw) bytes(n int) []byte {
	b := make([]byte, n)
	for i := range b {
		b[i] = byte(r.next())
	}
	return b
}

// packet is one of that Kind, all that another Kind has drawn too.
func (r *draw) packet(kind int) api.Packet {
	return api.Packet{
		Kind:   kind,
		Data:   api.Data{Seq: uint16(r.next()), Stamp: uint16(r.next()), Frame: r.next(), Symbol: uint16(r.next()), Body: r.bytes(1 + int(r.next()%api.MaxSymbol))},
		Report: api.Report{Top: uint64(r.next())<<32 | uint64(r.next()), Lost: r.next(), Got: r.next(), Burst: uint16(r.next()), Jitter: uint16(r.next())},
		Frame:  r.next(),
		Need:   uint16(r.next()),
	}
}

// digits is x in n bytes, the highest first, by division: none of the program's shifts.
func digits(x uint64, n int) []byte {
	b := make([]byte, n)
	for i := range b {
		b[n-1-i] = byte(x % 256)
		x /= 256
	}
	return b
}

// sealed is b and its sum, bit by bit: none of the program's tables.
func sealed(b []byte) []byte {
	r := uint64(0xFFFFFFFF)
	for _, x := range b {
		r ^= uint64(x) * 16777216
		for range 8 {
			if r *= 2; r > 0xFFFFFFFF {
				r = r%4294967296 ^ 0x04C11DB7
			}
		}
	}
	return joined(b, digits(r, 4))
}

// laid is what the chapter asks of Put.
func laid(p api.Packet) []byte {
	b := []byte{byte(p.Kind)}
	switch p.Kind {
	case api.PackData:
		d := p.Data
		b = joined(b, digits(uint64(d.Seq), 2), digits(uint64(d.Stamp), 2), digits(uint64(d.Frame), 4), digits(uint64(d.Symbol), 2), d.Body)
	case api.PackReport:
		r := p.Report
		b = joined(b, digits(r.Top, 8), digits(uint64(r.Lost), 4), digits(uint64(r.Got), 4), digits(uint64(r.Burst), 2), digits(uint64(r.Jitter), 2))
	case api.PackNack:
		b = joined(b, digits(uint64(p.Frame), 4), digits(uint64(p.Need), 2))
	case api.PackGone:
		b = joined(b, digits(uint64(p.Frame), 4))
	}
	return sealed(b)
}

// bare is p without what its Kind has not.
func bare(p api.Packet) api.Packet {
	switch p.Kind {
	case api.PackData:
		return api.Packet{Kind: p.Kind, Data: p.Data}
	case api.PackReport:
		return api.Packet{Kind: p.Kind, Report: p.Report}
	case api.PackNack:
		return api.Packet{Kind: p.Kind, Frame: p.Frame, Need: p.Need}
	}
	return api.Packet{Kind: p.Kind, Frame: p.Frame}
}

func same(x, y api.Packet) bool {
	return x.Kind == y.Kind && x.Data.Seq == y.Data.Seq && x.Data.Stamp == y.Data.Stamp && x.Data.Frame == y.Data.Frame && x.Data.Symbol == y.Data.Symbol &&
		bytes.Equal(x.Data.Body, y.Data.Body) && x.Report == y.Report && x.Frame == y.Frame && x.Need == y.Need
}

// fits tells whether so many bytes may stand behind that Kind.
func fits(kind, n int) bool {
	switch kind {
	case api.PackData:
		return n > numbers && n <= numbers+api.MaxSymbol
	case api.PackReport:
		return n == reportBytes
	case api.PackNack:
		return n == nackBytes
	case api.PackGone:
		return n == goneBytes
	}
	return false
}

// spoilt turns all bytes of b and writes over its spare room.
func spoilt(b []byte) {
	b = b[:cap(b)]
	for i := range b {
		b[i] ^= 0xA5
	}
}

// putOf is what is put where it must be.
func putOf(t *testing.T, p api.Packet) []byte {
	t.Helper()
	b, e := packet.Put(p)
	if e != api.OK {
		t.Fatalf("Put of %v: error %d", p, e)
	}
	return b
}

// takenOf is what is taken where it must be.
func takenOf(t *testing.T, b []byte) api.Packet {
	t.Helper()
	p, e := packet.Take(b)
	if e != api.OK {
		t.Fatalf("Take of %x: error %d", b, e)
	}
	return p
}

// goes asks that p is put as want, and that want is taken as p, without what its Kind has not.
func goes(t *testing.T, p api.Packet, want []byte) {
	t.Helper()
	if b := putOf(t, p); !bytes.Equal(b, want) {
		t.Errorf("Put of %v: %x, not %x", p, b, want)
	}
	if taken := takenOf(t, want); !same(taken, bare(p)) {
		t.Errorf("Take of %x: %v, not %v", want, taken, bare(p))
	}
}

// notPut asks for that error, and no bytes beside it.
func notPut(t *testing.T, p api.Packet, want api.Errno) {
	t.Helper()
	if b, e := packet.Put(p); b != nil || e != want {
		t.Errorf("Put of Kind %d, a body of %d bytes: %x, error %d, not %d", p.Kind, len(p.Data.Body), b, e, want)
	}
}

// notTaken asks for that error, and a zero packet beside it.
func notTaken(t *testing.T, b []byte, want api.Errno) {
	t.Helper()
	if p, e := packet.Take(b); !same(p, api.Packet{}) || p.Data.Body != nil || e != want {
		t.Errorf("Take of %x: %v, error %d, not %d", b, p, e, want)
	}
}

// asked asks for what stands sealed: it is taken and put as it was, or is of no form.
func asked(t *testing.T, b []byte) {
	t.Helper()
	if len(b) == 0 || !fits(int(b[0]), len(b)-1) {
		notTaken(t, sealed(b), api.ErrForm)
		return
	}
	p := takenOf(t, sealed(b))
	if !same(p, bare(p)) || p.Kind != int(b[0]) {
		t.Errorf("Take of %x: %v", b, p)
	}
	if again := putOf(t, p); !bytes.Equal(again, sealed(b)) {
		t.Errorf("%x is put as %x", b, again)
	}
}

// samples are packets of each Kind.
func samples() []api.Packet {
	return []api.Packet{
		{Kind: api.PackData, Data: api.Data{Seq: 0x0102, Stamp: 0x0304, Frame: 0x05060708, Symbol: 0x090A, Body: []byte("x")}},
		{Kind: api.PackData, Data: api.Data{Seq: 1000, Stamp: 2000, Frame: 3000000000, Symbol: 95, Body: text(api.MaxSymbol)}},
		{Kind: api.PackData, Data: api.Data{Body: make([]byte, 5)}},
		{Kind: api.PackReport, Report: api.Report{Top: 0x0123456789ABCDEF, Lost: 0x10213243, Got: 0x54657687, Burst: 0x98A9, Jitter: 0xBACB}},
		{Kind: api.PackReport},
		{Kind: api.PackNack, Frame: 3000000000, Need: 1000},
		{Kind: api.PackNack},
		{Kind: api.PackGone, Frame: 0x76543210},
		{Kind: api.PackGone},
	}
}

// Examples: Take of nothing: ErrSum.
func TestExample(t *testing.T) {
	notTaken(t, nil, api.ErrSum)
	notTaken(t, []byte{}, api.ErrSum)
	notTaken(t, text(40)[:0], api.ErrSum)
}

// P11.1 Put, Take: bytes that were written down ahead, their sums too.
func TestKnownPackets(t *testing.T) {
	for _, c := range []struct {
		p    api.Packet
		want string
	}{
		{api.Packet{Kind: api.PackData, Data: api.Data{Seq: 0x0102, Stamp: 0x0304, Frame: 0x05060708, Symbol: 0x090A, Body: []byte("x")}}, "\x01\x01\x02\x03\x04\x05\x06\x07\x08\x09\x0Ax\x47\x89\x4C\x63"},
		{api.Packet{Kind: api.PackData, Data: api.Data{Seq: 1000, Stamp: 2000, Frame: 3000000000, Symbol: 95, Body: []byte("hello")}}, "\x01\x03\xE8\x07\xD0\xB2\xD0\x5E\x00\x00\x5Fhello\xBB\x1D\xB1\x9A"},
		{api.Packet{Kind: api.PackReport, Report: api.Report{Top: 0x0123456789ABCDEF, Lost: 0x10213243, Got: 0x54657687, Burst: 0x98A9, Jitter: 0xBACB}}, "\x02\x01\x23\x45\x67\x89\xAB\xCD\xEF\x10\x21\x32\x43\x54\x65\x76\x87\x98\xA9\xBA\xCB\xA5\xF0\x7C\xB4"},
		{api.Packet{Kind: api.PackReport}, "\x02\x00\x00\x00\x00\x00\x00\x00\x00\x00\x00\x00\x00\x00\x00\x00\x00\x00\x00\x00\x00\xA1\xEE\x58\x52"},
		{api.Packet{Kind: api.PackNack, Frame: 3000000000, Need: 1000}, "\x03\xB2\xD0\x5E\x00\x03\xE8\x1B\xA1\xCC\x64"},
		{api.Packet{Kind: api.PackNack, Frame: 4294967295, Need: 65535}, "\x03\xFF\xFF\xFF\xFF\xFF\xFF\x95\xCF\xA9\x7A"},
		{api.Packet{Kind: api.PackGone, Frame: 0x76543210}, "\x04\x76\x54\x32\x10\xDB\x37\x14\x22"},
		{api.Packet{Kind: api.PackGone, Frame: 1}, "\x04\x00\x00\x00\x01\x63\x25\x25\xA8"},
	} {
		goes(t, c.p, []byte(c.want))
	}
}

// P11.1 Put, Take: each number of each Kind by itself: nothing, one, all that it can be.
func TestEachNumberByItself(t *testing.T) {
	for _, x := range []uint64{0, 1, 255, 256, 0xA1B2, 65535, 65536, 0x9A8B7C6D, 1 << 31, 1<<32 - 1, 1 << 32, 0xA1B2C3D4E5F60718, 1 << 63, 1<<64 - 1} {
		one := []byte{0x5A}
		for _, d := range []api.Data{{Seq: uint16(x)}, {Stamp: uint16(x)}, {Frame: uint32(x)}, {Symbol: uint16(x)}} {
			d.Body = one
			p := api.Packet{Kind: api.PackData, Data: d}
			goes(t, p, laid(p))
		}
		for _, r := range []api.Report{{Top: x}, {Lost: uint32(x)}, {Got: uint32(x)}, {Burst: uint16(x)}, {Jitter: uint16(x)}} {
			p := api.Packet{Kind: api.PackReport, Report: r}
			goes(t, p, laid(p))
		}
		for _, p := range []api.Packet{{Kind: api.PackNack, Frame: uint32(x)}, {Kind: api.PackNack, Need: uint16(x)}, {Kind: api.PackGone, Frame: uint32(x)}} {
			goes(t, p, laid(p))
		}
	}
}

// P11.1 Put: what the Kind has not does not matter: with it and without it the same bytes.
func TestWhatTheKindHasNotDoesNotMatter(t *testing.T) {
	r := draw(1)
	for range 2000 {
		for _, kind := range kinds {
			p := r.packet(kind)
			goes(t, p, laid(bare(p)))
			if !bytes.Equal(putOf(t, p), putOf(t, bare(p))) {
				t.Fatalf("%v: what its Kind has not matters", p)
			}
		}
	}
}

// P11.1 Put: a body that no data packet may have does not matter where there is none.
func TestABodyDoesNotMatterWhereThereIsNone(t *testing.T) {
	for _, kind := range kinds[1:] {
		for _, body := range [][]byte{nil, {}, text(1), text(api.MaxSymbol), text(api.MaxSymbol + 1), text(1 << 16)} {
			p := api.Packet{Kind: kind, Data: api.Data{Seq: 1, Body: body}, Report: api.Report{Top: 2}, Frame: 3, Need: 4}
			goes(t, p, laid(p))
		}
	}
}

// P11.1 Put: ErrArg: another Kind, whatever the rest is, and ahead of head's error.
func TestOtherKindsAreNotPut(t *testing.T) {
	r := draw(2)
	for _, kind := range others {
		notPut(t, api.Packet{Kind: kind}, api.ErrArg)
		notPut(t, api.Packet{Kind: kind, Data: api.Data{Body: text(1)}}, api.ErrArg)
		notPut(t, api.Packet{Kind: kind, Data: api.Data{Body: text(api.MaxSymbol + 1)}}, api.ErrArg)
		notPut(t, r.packet(kind), api.ErrArg)
	}
	for kind := -70000; kind <= 70000; kind++ {
		if kind < api.PackData || kind > api.PackGone {
			notPut(t, api.Packet{Kind: kind, Data: api.Data{Body: []byte{1}}}, api.ErrArg)
		}
	}
	notPut(t, api.Packet{}, api.ErrArg)
}

// P11.1 Put: head's error: no body, one without bytes, one that is too long, whatever the rest is.
func TestBodiesThatAreNotPut(t *testing.T) {
	for _, p := range []api.Packet{
		{Kind: api.PackData},
		{Kind: api.PackData, Data: api.Data{Seq: 0xFFFF, Stamp: 0xFFFF, Frame: 0xFFFFFFFF, Symbol: 0xFFFF}, Report: api.Report{Top: 1}, Frame: 2, Need: 3},
	} {
		for _, body := range [][]byte{
			nil, {}, text(20)[:0], text(api.MaxSymbol + 1), make([]byte, api.MaxSymbol+1), text(2 * api.MaxSymbol)[:api.MaxSymbol+1],
			text(api.MaxSymbol + 2), text(256), text(257), text(256 + api.MaxSymbol), text(1<<16 + 1), text(1 << 20),
		} {
			p.Data.Body = body
			notPut(t, p, api.ErrSize)
		}
	}
}

// P11.1 Put, Size: each length that a body may have: it is put, in just so many bytes.
func TestBodiesOfEachLength(t *testing.T) {
	for n := 1; n <= api.MaxSymbol; n++ {
		for _, body := range [][]byte{text(n), make([]byte, n), alike(n, 0xFF), text(n + 50)[:n]} {
			p := api.Packet{Kind: api.PackData, Data: api.Data{Seq: 0x1122, Stamp: 0x3344, Frame: 0x55667788, Symbol: 0x99AA, Body: body}}
			goes(t, p, laid(p))
			if b := putOf(t, p); len(b) != packet.Size(n) || len(b) != n+15 {
				t.Errorf("a body of %d bytes: %d bytes, Size %d", n, len(b), packet.Size(n))
			}
		}
	}
}

// P11.1 Size: 15 more, whether or not a body may have so many.
func TestSize(t *testing.T) {
	for n := -100; n <= 1000; n++ {
		if s := packet.Size(n); s != n+15 {
			t.Errorf("Size(%d): %d", n, s)
		}
	}
	for _, c := range []struct{ symbol, want int }{{0, 15}, {1, 16}, {64, 79}, {65, 80}, {1 << 16, 65551}, {1<<31 - 1, 1<<31 + 14}, {math.MaxInt - 15, math.MaxInt}, {math.MinInt, math.MinInt + 15}} {
		if s := packet.Size(c.symbol); s != c.want {
			t.Errorf("Size(%d): %d, not %d", c.symbol, s, c.want)
		}
	}
}

// R1: Size ends, whatever it is handed.
func TestSizeOfTheGreatest(t *testing.T) {
	packet.Size(math.MaxInt)
	packet.Size(math.MaxInt - 14)
}

// P11.1 Put: how many bytes the packets of the other Kinds have.
func TestLengthsOfWhatIsToldBack(t *testing.T) {
	r := draw(3)
	for range 500 {
		for kind, want := range map[int]int{api.PackReport: 25, api.PackNack: 11, api.PackGone: 9} {
			if n := len(putOf(t, r.packet(kind))); n != want {
				t.Fatalf("Kind %d: %d bytes", kind, n)
			}
		}
	}
}

// P11.1 Take: ErrSum: fewer bytes than a sum has, whatever they are and whatever stands behind them in the same room.
func TestFewerBytesThanASumHas(t *testing.T) {
	for n := range 4 {
		for _, b := range [][]byte{make([]byte, n), text(n), alike(n, 0xFF), alike(n, 0x04), text(50)[:n], text(50)[:n:n], sealed(nil)[:n], laid(samples()[0])[:n]} {
			notTaken(t, b, api.ErrSum)
		}
	}
}

// P11.1 Take: ErrSum: one bit is turned, at each place.
func TestEachBitThatIsTurned(t *testing.T) {
	for _, p := range samples() {
		b := laid(p)
		for i := range len(b) * 8 {
			b[i/8] ^= 1 << (i % 8)
			notTaken(t, b, api.ErrSum)
			b[i/8] ^= 1 << (i % 8)
		}
		goes(t, p, b)
	}
}

// P11.1 Take: ErrSum: one byte is another, at each place, whichever it is.
func TestEachByteThatIsTurned(t *testing.T) {
	for _, p := range samples() {
		b := laid(p)
		for i := range b {
			for turn := 1; turn < 256; turn++ {
				b[i] ^= byte(turn)
				notTaken(t, b, api.ErrSum)
				b[i] ^= byte(turn)
			}
		}
		goes(t, p, b)
	}
}

// P11.1 Take: ErrSum: bytes are missing at the end or at the start, or none of them is sealed.
func TestBytesThatAreNotSealed(t *testing.T) {
	for _, p := range samples() {
		b := laid(p)
		for n := range b {
			notTaken(t, b[:n], api.ErrSum)
		}
		notTaken(t, joined(b, []byte{1}), api.ErrSum)
		notTaken(t, joined([]byte{1}, b), api.ErrSum)
		notTaken(t, joined(b[:len(b)-4], alike(4, 0)), api.ErrSum)
		notTaken(t, joined(b[:len(b)-4], alike(4, 0xFF)), api.ErrSum)
	}
	for _, kind := range []byte{0, 5, 255} {
		notTaken(t, alike(9, kind), api.ErrSum)
		notTaken(t, joined([]byte{kind}, text(11)), api.ErrSum)
	}
}

// P11.1 Take: ErrForm: sealed nothing.
func TestSealedNothing(t *testing.T) {
	notTaken(t, []byte{0xFF, 0xFF, 0xFF, 0xFF}, api.ErrForm)
	notTaken(t, sealed(nil), api.ErrForm)
}

// P11.1 Take: each byte as a Kind, with nothing behind it and with each length: those that may be are taken, all else is ErrForm.
func TestEachKindWithEachLength(t *testing.T) {
	for kind := range 256 {
		for n := range 120 {
			first := []byte{byte(kind)}
			asked(t, joined(first, text(n)))
			asked(t, joined(first, make([]byte, n)))
			asked(t, joined(first, alike(n, 0xFF)))
		}
	}
	for _, kind := range kinds {
		for _, n := range []int{256 + goneBytes, 256 + nackBytes, 256 + reportBytes, 256 + numbers + 1, 1<<16 + goneBytes, 1<<16 + nackBytes, 1<<16 + reportBytes, 1<<16 + numbers + 1, 1 << 18} {
			asked(t, joined([]byte{byte(kind)}, text(n)))
		}
	}
}

// P11.1 Take: a packet sealed once more is told by its length, or is a data packet with a longer body.
func TestSealedTwice(t *testing.T) {
	for _, p := range samples() {
		asked(t, laid(p))
	}
}

// P11.1 Take: noughts behind a packet leave its last four bytes a sum: they are told by its length, or make a data packet with a longer body.
func TestNoughtsBehindAPacket(t *testing.T) {
	for _, p := range samples() {
		for n := 1; n < 100; n++ {
			b := joined(laid(p), make([]byte, n))
			asked(t, b[:len(b)-4])
			if p.Kind != api.PackData || len(p.Data.Body)+n > api.MaxSymbol {
				notTaken(t, b, api.ErrForm)
			} else if d := takenOf(t, b).Data; len(d.Body) != len(p.Data.Body)+n {
				t.Errorf("a body of %d bytes and %d noughts: a body of %d", len(p.Data.Body), n, len(d.Body))
			}
		}
	}
}

// P11.1 Take: each bit of what stands sealed is told in what is taken.
func TestEachBitIsTaken(t *testing.T) {
	for _, kind := range kinds {
		for n := range numbers + api.MaxSymbol + 2 {
			if !fits(kind, n) {
				continue
			}
			for i := range n * 8 {
				b := append([]byte{byte(kind)}, make([]byte, n)...)
				b[1+i/8] = 1 << (i % 8)
				asked(t, b)
			}
		}
	}
}

// P11.1, 'What follows': what is put is taken, over many drawn packets.
func TestWhatIsPutIsTaken(t *testing.T) {
	r := draw(11)
	for range 20000 {
		for _, kind := range kinds {
			p := r.packet(kind)
			goes(t, p, laid(p))
			if taken := takenOf(t, putOf(t, p)); !same(taken, bare(p)) {
				t.Fatalf("%v is taken as %v", p, taken)
			}
		}
	}
}

// P11.1: what is taken is put as those bytes, and what is not is of no form. Over many drawn bytes, all of them sealed.
func TestSealedBytesAreTakenAndPut(t *testing.T) {
	r := draw(21)
	for i := range 20000 {
		b := r.bytes(i % 90)
		asked(t, b)
		for _, kind := range kinds {
			asked(t, joined([]byte{byte(kind)}, b))
		}
		asked(t, joined([]byte{api.PackReport}, r.bytes(reportBytes)))
		asked(t, joined([]byte{api.PackNack}, r.bytes(nackBytes)))
		asked(t, joined([]byte{api.PackGone}, r.bytes(goneBytes)))
	}
}

// P11.1, W3: bytes that nobody sealed are told by their sums, over many drawn ones; none of these is right by chance.
func TestBytesThatNobodySealed(t *testing.T) {
	r := draw(31)
	for i := range 50000 {
		notTaken(t, r.bytes(i%100), api.ErrSum)
	}
}

// R3: Put leaves the body as it was, and what stands ahead of it and behind it in the same room too, of each Kind.
func TestPutLeavesTheBodyAsItWas(t *testing.T) {
	room := text(200)
	for _, kind := range []int{0, api.PackData, api.PackReport, api.PackNack, api.PackGone, 5} {
		for n := range api.MaxSymbol + 3 {
			b, _ := packet.Put(api.Packet{Kind: kind, Data: api.Data{Seq: 1, Body: room[20 : 20+n]}})
			spoilt(b)
			if !bytes.Equal(room, text(200)) {
				t.Fatalf("Kind %d, a body of %d bytes: its room was changed: %x", kind, n, room)
			}
		}
	}
}

// R3: Put keeps nothing of the body: who turns it turns nothing that was put, and two answers share nothing, their spare room too.
func TestWhatIsPutIsNewMemory(t *testing.T) {
	for _, p := range samples() {
		want := laid(p)
		first, second := putOf(t, p), putOf(t, p)
		spoilt(first)
		if !bytes.Equal(second, want) {
			t.Fatalf("%v: two answers share memory", p)
		}
		spoilt(p.Data.Body)
		if !bytes.Equal(second, want) {
			t.Fatalf("Kind %d: the body was kept", p.Kind)
		}
	}
}

// R3: Take leaves the bytes as they were, and what stands ahead of them and behind them in the same room too, whether they are taken or not.
func TestTakeLeavesTheBytesAsTheyWere(t *testing.T) {
	wires := [][]byte{nil, text(3), text(30), sealed(nil), sealed([]byte{9}), sealed([]byte{api.PackData}), sealed(joined([]byte{api.PackGone}, text(5)))}
	for _, p := range samples() {
		wires = append(wires, laid(p))
	}
	for _, wire := range wires {
		room := joined(text(20), wire, text(120))
		want := bytes.Clone(room)
		p, _ := packet.Take(room[20 : 20+len(wire)])
		spoilt(p.Data.Body)
		if !bytes.Equal(room, want) {
			t.Fatalf("%x: their room was changed: %x", wire, room)
		}
	}
}

// P11.1 Take: what stands behind the bytes in the same room is not told.
func TestWhatStandsBehindIsNotTold(t *testing.T) {
	for _, p := range samples() {
		b := laid(p)
		for _, behind := range [][]byte{make([]byte, 90), alike(90, 0xFF), text(90)} {
			goes(t, p, joined(b, behind)[:len(b)])
		}
	}
}

// R3: Take keeps nothing of the bytes: who turns them turns no body, and two answers share nothing.
func TestWhatIsTakenIsNewMemory(t *testing.T) {
	for n := 1; n <= api.MaxSymbol; n++ {
		b := laid(api.Packet{Kind: api.PackData, Data: api.Data{Seq: 1, Body: text(n)}})
		first, second := takenOf(t, b), takenOf(t, b)
		spoilt(first.Data.Body)
		if !bytes.Equal(second.Data.Body, text(n)) {
			t.Fatalf("a body of %d bytes: two answers share memory", n)
		}
		spoilt(b)
		if !bytes.Equal(second.Data.Body, text(n)) {
			t.Fatalf("a body of %d bytes: the bytes were kept", n)
		}
	}
}

// R4, W6: a call answers the same, whatever was asked and refused between.
func TestCallsAreTheSameEachTime(t *testing.T) {
	for n := range 100 {
		packet.Put(api.Packet{Kind: n - 50, Data: api.Data{Body: text(n)}})
		packet.Take(text(n))
		packet.Take(sealed(text(n)))
		packet.Take(nil)
		for _, p := range samples() {
			goes(t, p, laid(p))
		}
		notPut(t, api.Packet{Kind: 5}, api.ErrArg)
		notPut(t, api.Packet{Kind: api.PackData}, api.ErrSize)
		notTaken(t, text(20), api.ErrSum)
		notTaken(t, sealed(text(20)[:5]), api.ErrForm)
	}
}
