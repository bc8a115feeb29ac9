package back_test

import (
	"bytes"
	"testing"

	"girandole/api"
	"girandole/back"
)

// How many bytes each of them has.
const (
	reportBytes = 20
	nackBytes   = 6
	goneBytes   = 4
)

// text is n bytes, none of them 0.
func text(n int) []byte {
	b := make([]byte, n)
	for i := range b {
		b[i] = byte(1 + i*7%255)
	}
	return b
}

// alike is n bytes that are all x.
func alike(n int, x byte) []byte { return bytes.Repeat([]byte{x}, n) }

// draw is a run of numbers that is the same each time.
type draw uint32

func (r *draw) next() uint32 {
	*r = *r*1664525 + 1013904223
	return uint32(*r)>>16 | uint32(*r)<<16
}

func (r *draw) bytes(n int) []byte {
	b := make([]byte, n)
	for i := range b {
		b[i] = byte(r.next())
	}
	return b
}

func (r *draw) report() api.Report {
	return api.Report{Top: uint64(r.next())<<32 | uint64(r.next()), Lost: r.next(), Got: r.next(), Burst: uint16(r.next()), Jitter: uint16(r.next())}
}

// digits is x in n bytes, the highest first, by division: none of the program's shifts.
func digits(x uint64, n int) []byte {
	b := make([]byte, n)
	for i := range b {
		b[n-1-i] = byte(x % 256)
		x /= 256
	}
	return b
}

// joined is the lists, one behind the other.
func joined(lists ...[]byte) []byte { return bytes.Join(lists, nil) }

// laidReport is what the chapter asks of PutReport.
func laidReport(r api.Report) []byte {
	return joined(digits(r.Top, 8), digits(uint64(r.Lost), 4), digits(uint64(r.Got), 4), digits(uint64(r.Burst), 2), digits(uint64(r.Jitter), 2))
}

// laidNack is what the chapter asks of PutNack.
func laidNack(frame uint32, need uint16) []byte {
	return joined(digits(uint64(frame), 4), digits(uint64(need), 2))
}

// laidGone is what the chapter asks of PutGone.
func laidGone(frame uint32) []byte { return digits(uint64(frame), 4) }

// spoilt turns all bytes of b and writes over its spare room.
func spoilt(b []byte) {
	b = b[:cap(b)]
	for i := range b {
		b[i] ^= 0xA5
	}
}

// takenReport is what is taken where it must be.
func takenReport(t *testing.T, b []byte) api.Report {
	t.Helper()
	r, e := back.TakeReport(b)
	if e != api.OK {
		t.Fatalf("TakeReport of %x: error %d", b, e)
	}
	return r
}

// takenNack is what is taken where it must be.
func takenNack(t *testing.T, b []byte) (uint32, uint16) {
	t.Helper()
	frame, need, e := back.TakeNack(b)
	if e != api.OK {
		t.Fatalf("TakeNack of %x: error %d", b, e)
	}
	return frame, need
}

// takenGone is what is taken where it must be.
func takenGone(t *testing.T, b []byte) uint32 {
	t.Helper()
	frame, e := back.TakeGone(b)
	if e != api.OK {
		t.Fatalf("TakeGone of %x: error %d", b, e)
	}
	return frame
}

// reportGoes asks that r is put as want, and that want is taken as r.
func reportGoes(t *testing.T, r api.Report, want []byte) {
	t.Helper()
	if b := back.PutReport(r); !bytes.Equal(b, want) {
		t.Errorf("PutReport of %v: %x, not %x", r, b, want)
	}
	if taken := takenReport(t, want); taken != r {
		t.Errorf("TakeReport of %x: %v, not %v", want, taken, r)
	}
}

// nackGoes asks that frame and need are put as want, and that want is taken as they are.
func nackGoes(t *testing.T, frame uint32, need uint16, want []byte) {
	t.Helper()
	if b := back.PutNack(frame, need); !bytes.Equal(b, want) {
		t.Errorf("PutNack(%d, %d): %x, not %x", frame, need, b, want)
	}
	if f, n := takenNack(t, want); f != frame || n != need {
		t.Errorf("TakeNack of %x: %d, %d, not %d, %d", want, f, n, frame, need)
	}
}

// goneGoes asks that frame is put as want, and that want is taken as frame.
func goneGoes(t *testing.T, frame uint32, want []byte) {
	t.Helper()
	if b := back.PutGone(frame); !bytes.Equal(b, want) {
		t.Errorf("PutGone(%d): %x, not %x", frame, b, want)
	}
	if f := takenGone(t, want); f != frame {
		t.Errorf("TakeGone of %x: %d, not %d", want, f, frame)
	}
}

// noReport asks for ErrForm, and a zero report beside it.
func noReport(t *testing.T, b []byte) {
	t.Helper()
	if r, e := back.TakeReport(b); r != (api.Report{}) || e != api.ErrForm {
		t.Errorf("TakeReport of %d bytes: %v, error %d", len(b), r, e)
	}
}

// noNack asks for ErrForm, and zeros beside it.
func noNack(t *testing.T, b []byte) {
	t.Helper()
	if frame, need, e := back.TakeNack(b); frame != 0 || need != 0 || e != api.ErrForm {
		t.Errorf("TakeNack of %d bytes: %d, %d, error %d", len(b), frame, need, e)
	}
}

// noGone asks for ErrForm, and zero beside it.
func noGone(t *testing.T, b []byte) {
	t.Helper()
	if frame, e := back.TakeGone(b); frame != 0 || e != api.ErrForm {
		t.Errorf("TakeGone of %d bytes: %d, error %d", len(b), frame, e)
	}
}

// asked asks all three of b: who has its length takes it and puts it as it was, the others say ErrForm.
func asked(t *testing.T, b []byte) {
	t.Helper()
	if len(b) != reportBytes {
		noReport(t, b)
	} else if again := back.PutReport(takenReport(t, b)); !bytes.Equal(again, b) {
		t.Errorf("a report: %x is put as %x", b, again)
	}
	if len(b) != nackBytes {
		noNack(t, b)
	} else if again := back.PutNack(takenNack(t, b)); !bytes.Equal(again, b) {
		t.Errorf("a nack: %x is put as %x", b, again)
	}
	if len(b) != goneBytes {
		noGone(t, b)
	} else if again := back.PutGone(takenGone(t, b)); !bytes.Equal(again, b) {
		t.Errorf("a gone: %x is put as %x", b, again)
	}
}

// Examples: PutGone(1): 0 0 0 1.
func TestExample(t *testing.T) {
	if b := back.PutGone(1); !bytes.Equal(b, []byte{0, 0, 0, 1}) {
		t.Errorf("%x", b)
	}
}

// P10.1 PutReport, TakeReport: bytes that were written down ahead.
func TestKnownReports(t *testing.T) {
	for _, c := range []struct {
		r    api.Report
		want string
	}{
		{api.Report{Top: 0x0123456789ABCDEF, Lost: 0x10213243, Got: 0x54657687, Burst: 0x98A9, Jitter: 0xBACB}, "\x01\x23\x45\x67\x89\xAB\xCD\xEF\x10\x21\x32\x43\x54\x65\x76\x87\x98\xA9\xBA\xCB"},
		{api.Report{Top: 131071, Lost: 3, Got: 1000, Burst: 2, Jitter: 300}, "\x00\x00\x00\x00\x00\x01\xFF\xFF\x00\x00\x00\x03\x00\x00\x03\xE8\x00\x02\x01\x2C"},
		{api.Report{Top: 1000000000000, Lost: 3000000000, Got: 70000, Burst: 65535, Jitter: 1}, "\x00\x00\x00\xE8\xD4\xA5\x10\x00\xB2\xD0\x5E\x00\x00\x01\x11\x70\xFF\xFF\x00\x01"},
		{api.Report{}, "\x00\x00\x00\x00\x00\x00\x00\x00\x00\x00\x00\x00\x00\x00\x00\x00\x00\x00\x00\x00"},
		{api.Report{Top: 1<<64 - 1, Lost: 1<<32 - 1, Got: 1<<32 - 1, Burst: 65535, Jitter: 65535}, "\xFF\xFF\xFF\xFF\xFF\xFF\xFF\xFF\xFF\xFF\xFF\xFF\xFF\xFF\xFF\xFF\xFF\xFF\xFF\xFF"},
	} {
		reportGoes(t, c.r, []byte(c.want))
	}
}

// P10.1 PutNack, TakeNack: bytes that were written down ahead.
func TestKnownNacks(t *testing.T) {
	for _, c := range []struct {
		frame uint32
		need  uint16
		want  string
	}{
		{7, 3, "\x00\x00\x00\x07\x00\x03"}, {3000000000, 1000, "\xB2\xD0\x5E\x00\x03\xE8"}, {0x76543210, 0xFEDC, "\x76\x54\x32\x10\xFE\xDC"},
		{0, 0, "\x00\x00\x00\x00\x00\x00"}, {4294967295, 65535, "\xFF\xFF\xFF\xFF\xFF\xFF"},
	} {
		nackGoes(t, c.frame, c.need, []byte(c.want))
	}
}

// P10.1 PutGone, TakeGone: bytes that were written down ahead.
func TestKnownGones(t *testing.T) {
	for _, c := range []struct {
		frame uint32
		want  string
	}{
		{0, "\x00\x00\x00\x00"}, {1, "\x00\x00\x00\x01"}, {255, "\x00\x00\x00\xFF"}, {256, "\x00\x00\x01\x00"}, {65536, "\x00\x01\x00\x00"}, {16777216, "\x01\x00\x00\x00"},
		{3000000000, "\xB2\xD0\x5E\x00"}, {0x76543210, "\x76\x54\x32\x10"}, {1 << 31, "\x80\x00\x00\x00"}, {4294967295, "\xFF\xFF\xFF\xFF"},
	} {
		goneGoes(t, c.frame, []byte(c.want))
	}
}

// P10.1 PutReport, TakeReport: each number by itself, at its own place, the highest byte first, and noughts where the others stand.
func TestEachNumberOfAReportAtItsOwnPlace(t *testing.T) {
	for _, c := range []struct {
		r     api.Report
		place int
		want  string
	}{
		{api.Report{Top: 0}, 0, "\x00\x00\x00\x00\x00\x00\x00\x00"}, {api.Report{Top: 1}, 0, "\x00\x00\x00\x00\x00\x00\x00\x01"},
		{api.Report{Top: 18446744073709551615}, 0, "\xFF\xFF\xFF\xFF\xFF\xFF\xFF\xFF"}, {api.Report{Top: 0xA1B2C3D4E5F60718}, 0, "\xA1\xB2\xC3\xD4\xE5\xF6\x07\x18"},
		{api.Report{Top: 1 << 32}, 0, "\x00\x00\x00\x01\x00\x00\x00\x00"}, {api.Report{Top: 1 << 63}, 0, "\x80\x00\x00\x00\x00\x00\x00\x00"},
		{api.Report{Lost: 0}, 8, "\x00\x00\x00\x00"}, {api.Report{Lost: 1}, 8, "\x00\x00\x00\x01"},
		{api.Report{Lost: 4294967295}, 8, "\xFF\xFF\xFF\xFF"}, {api.Report{Lost: 0x9A8B7C6D}, 8, "\x9A\x8B\x7C\x6D"},
		{api.Report{Got: 0}, 12, "\x00\x00\x00\x00"}, {api.Report{Got: 1}, 12, "\x00\x00\x00\x01"},
		{api.Report{Got: 4294967295}, 12, "\xFF\xFF\xFF\xFF"}, {api.Report{Got: 0x5E4F3021}, 12, "\x5E\x4F\x30\x21"},
		{api.Report{Burst: 0}, 16, "\x00\x00"}, {api.Report{Burst: 1}, 16, "\x00\x01"}, {api.Report{Burst: 65535}, 16, "\xFF\xFF"}, {api.Report{Burst: 0xC3D4}, 16, "\xC3\xD4"},
		{api.Report{Jitter: 0}, 18, "\x00\x00"}, {api.Report{Jitter: 1}, 18, "\x00\x01"}, {api.Report{Jitter: 65535}, 18, "\xFF\xFF"}, {api.Report{Jitter: 0xE5F6}, 18, "\xE5\xF6"},
	} {
		want := make([]byte, reportBytes)
		copy(want[c.place:], c.want)
		reportGoes(t, c.r, want)
	}
}

// P10.1 PutNack, TakeNack: each number by itself, at its own place, the highest byte first, and noughts where the other stands.
func TestEachNumberOfANackAtItsOwnPlace(t *testing.T) {
	for _, c := range []struct {
		frame uint32
		need  uint16
		want  string
	}{
		{1, 0, "\x00\x00\x00\x01\x00\x00"}, {4294967295, 0, "\xFF\xFF\xFF\xFF\x00\x00"}, {0x9A8B7C6D, 0, "\x9A\x8B\x7C\x6D\x00\x00"},
		{0x01000000, 0, "\x01\x00\x00\x00\x00\x00"}, {0x00010000, 0, "\x00\x01\x00\x00\x00\x00"},
		{0, 1, "\x00\x00\x00\x00\x00\x01"}, {0, 65535, "\x00\x00\x00\x00\xFF\xFF"}, {0, 0xE5F6, "\x00\x00\x00\x00\xE5\xF6"},
	} {
		nackGoes(t, c.frame, c.need, []byte(c.want))
	}
}

// P10.1: all that the short numbers can be, and the long ones two bytes at a time.
func TestAllNumbers(t *testing.T) {
	for i := range 65536 {
		x := uint32(i)
		for _, r := range []api.Report{
			{Top: uint64(x)}, {Top: uint64(x) << 16}, {Top: uint64(x) << 32}, {Top: uint64(x) << 48},
			{Lost: x}, {Lost: x << 16}, {Got: x}, {Got: x << 16}, {Burst: uint16(x)}, {Jitter: uint16(x)},
		} {
			reportGoes(t, r, laidReport(r))
		}
		for _, frame := range []uint32{x, x << 16} {
			nackGoes(t, frame, 0, laidNack(frame, 0))
			goneGoes(t, frame, laidGone(frame))
		}
		nackGoes(t, 0, uint16(x), laidNack(0, uint16(x)))
	}
}

// P10.1: each bit by itself: it is taken, and put again where it stood.
func TestEachBit(t *testing.T) {
	for _, n := range []int{reportBytes, nackBytes, goneBytes} {
		for i := range n * 8 {
			b := make([]byte, n)
			b[i/8] = 1 << (i % 8)
			asked(t, b)
			for j := range b {
				b[j] = ^b[j]
			}
			asked(t, b)
		}
	}
}

// P10.1 PutReport, PutNack, PutGone: twenty bytes, six and four, whatever the numbers are.
func TestLengthsOfWhatIsPut(t *testing.T) {
	r := draw(3)
	for range 1000 {
		if n := len(back.PutReport(r.report())); n != reportBytes {
			t.Fatalf("a report of %d bytes", n)
		}
		if n := len(back.PutNack(r.next(), uint16(r.next()))); n != nackBytes {
			t.Fatalf("a nack of %d bytes", n)
		}
		if n := len(back.PutGone(r.next())); n != goneBytes {
			t.Fatalf("a gone of %d bytes", n)
		}
	}
}

// P10.1 TakeReport, TakeNack, TakeGone: ErrForm: no bytes at all, and none where there is room for them.
func TestNoBytes(t *testing.T) {
	for _, b := range [][]byte{nil, {}, text(reportBytes)[:0], text(nackBytes)[:0], text(goneBytes)[:0]} {
		noReport(t, b)
		noNack(t, b)
		noGone(t, b)
	}
}

// P10.1 TakeReport, TakeNack, TakeGone: of the right length, whatever the bytes are: what is put so; ErrForm: of each other length, whatever stands behind the bytes in the same room.
func TestBytesOfEachLength(t *testing.T) {
	for n := range 601 {
		asked(t, make([]byte, n))
		asked(t, alike(n, 0xFF))
		asked(t, text(n))
		asked(t, text(n + 100)[:n])
		asked(t, text(n + 100)[:n:n])
	}
	for _, n := range []int{1 << 16, 1<<16 + goneBytes, 1<<16 + nackBytes, 1<<16 + reportBytes, 1 << 20} {
		asked(t, text(n))
	}
}

// P10.1 TakeReport, TakeNack, TakeGone: what stands behind the bytes in the same room is not told.
func TestWhatStandsBehindIsNotTold(t *testing.T) {
	for _, room := range [][]byte{text(100), alike(100, 0xFF)} {
		for n := range 30 {
			b := append(make([]byte, 0, 200), room[:n]...)
			want := bytes.Clone(b)
			copy(b[n:cap(b)], alike(200, 0x5A))
			switch n {
			case reportBytes:
				reportGoes(t, takenReport(t, want), b)
			case nackBytes:
				frame, need := takenNack(t, want)
				nackGoes(t, frame, need, b)
			case goneBytes:
				goneGoes(t, takenGone(t, want), b)
			}
		}
	}
}

// P10.1, 'What follows': what is put is taken, over many drawn numbers.
func TestWhatIsPutIsTaken(t *testing.T) {
	d := draw(10)
	for range 50000 {
		r, frame, need := d.report(), d.next(), uint16(d.next())
		reportGoes(t, r, laidReport(r))
		nackGoes(t, frame, need, laidNack(frame, need))
		goneGoes(t, frame, laidGone(frame))
		if taken := takenReport(t, back.PutReport(r)); taken != r {
			t.Fatalf("%v is taken as %v", r, taken)
		}
		if f, n := takenNack(t, back.PutNack(frame, need)); f != frame || n != need {
			t.Fatalf("%d, %d is taken as %d, %d", frame, need, f, n)
		}
		if f := takenGone(t, back.PutGone(frame)); f != frame {
			t.Fatalf("%d is taken as %d", frame, f)
		}
	}
}

// P10.1: what is taken is put as those bytes, and what has another length is not taken. Over many drawn bytes.
func TestWhatIsTakenIsPutAsThoseBytes(t *testing.T) {
	d := draw(20)
	for i := range 20000 {
		asked(t, d.bytes(reportBytes))
		asked(t, d.bytes(nackBytes))
		asked(t, d.bytes(goneBytes))
		asked(t, d.bytes(i%32))
	}
}

// R3: the bytes are left as they were, and what stands ahead of them and behind them in the same room too.
func TestTakeLeavesTheBytesAsTheyWere(t *testing.T) {
	room := text(100)
	for n := range 40 {
		b := room[20 : 20+n]
		r, _ := back.TakeReport(b)
		frame, need, _ := back.TakeNack(b)
		gone, _ := back.TakeGone(b)
		spoilt(back.PutReport(r))
		spoilt(back.PutNack(frame, need))
		spoilt(back.PutGone(gone))
		if !bytes.Equal(room, text(100)) {
			t.Fatalf("%d bytes: their room was changed: %x", n, room)
		}
	}
}

// R3: nothing of the bytes is kept: who turns them turns nothing that is told afterwards.
func TestBytesAreNotKept(t *testing.T) {
	want := text(reportBytes)
	b := text(reportBytes)
	r := takenReport(t, b)
	frame, need := takenNack(t, b[:nackBytes])
	gone := takenGone(t, b[:goneBytes])
	spoilt(b)
	reportGoes(t, r, want)
	nackGoes(t, frame, need, want[:nackBytes])
	goneGoes(t, gone, want[:goneBytes])
}

// R3: what is put is new memory: two answers share nothing, their spare room too.
func TestWhatIsPutIsNewMemory(t *testing.T) {
	r := api.Report{Top: 0x0102030405060708, Lost: 0x11121314, Got: 0x21222324, Burst: 0x3132, Jitter: 0x4142}
	for name, put := range map[string]func() []byte{
		"PutReport": func() []byte { return back.PutReport(r) },
		"PutNack":   func() []byte { return back.PutNack(0x51525354, 0x6162) },
		"PutGone":   func() []byte { return back.PutGone(0x71727374) },
	} {
		first, second := put(), put()
		want := bytes.Clone(first)
		spoilt(first)
		if !bytes.Equal(second, want) {
			t.Errorf("%s: two answers share memory", name)
		}
		if third := put(); !bytes.Equal(third, want) {
			t.Errorf("%s: an answer was kept", name)
		}
	}
}

// R4, W6: a call answers the same, whatever was asked and refused between.
func TestCallsAreTheSameEachTime(t *testing.T) {
	r := api.Report{Top: 0x123456789ABCDEF0, Lost: 0x0FEDCBA9, Got: 0x87654321, Burst: 0x1357, Jitter: 0x2468}
	for n := range 100 {
		back.PutReport(api.Report{Top: uint64(n), Jitter: uint16(n)})
		back.PutNack(uint32(n), uint16(n))
		back.PutGone(uint32(n))
		asked(t, text(n))
		asked(t, nil)
		reportGoes(t, r, laidReport(r))
		nackGoes(t, 0x9ABCDEF0, 0x4321, laidNack(0x9ABCDEF0, 0x4321))
		goneGoes(t, 0x13579BDF, laidGone(0x13579BDF))
	}
}
