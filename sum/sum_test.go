package sum_test

import (
	"bytes"
	"hash/crc32"
	"math/bits"
	"slices"
	"testing"

	"girandole/sum"
)

// text is n bytes of all kinds, the same at each run.
func text(n int) []byte {
	b := make([]byte, n)
	x := uint32(n + 1)
	for i := range b {
		x = x*1664525 + 1013904223
		b[i] = byte(x >> 24)
	}
	return b
}

// alike is n bytes that are all x.
func alike(n int, x byte) []byte { return bytes.Repeat([]byte{x}, n) }

// rising is the 256 bytes from 0 up.
func rising() []byte {
	b := make([]byte, 256)
	for i := range b {
		b[i] = byte(i)
	}
	return b
}

// falling is the 256 bytes from 255 down.
func falling() []byte {
	b := rising()
	slices.Reverse(b)
	return b
}

// bitByBit is the sum by the chapter's words, on a register of 32 single bits, the highest at place 0.
func bitByBit(b []byte) uint32 {
	var register, turn [32]bool
	for i := range 32 {
		register[i] = true
		turn[i] = uint32(0x04C11DB7)>>(31-i)&1 == 1
	}
	for _, x := range b {
		for i := range 8 {
			register[i] = register[i] != (x>>(7-i)&1 == 1)
		}
		for range 8 {
			out := register[0]
			copy(register[:], register[1:])
			register[31] = false
			for i := range register {
				register[i] = register[i] != (out && turn[i])
			}
		}
	}
	r := uint32(0)
	for _, one := range register {
		r <<= 1
		if one {
			r++
		}
	}
	return r
}

// byLibrary is the sum out of the library's one, which goes through all bits the other way round and turns what comes out.
func byLibrary(b []byte) uint32 {
	mirrored := make([]byte, len(b))
	for i, x := range b {
		mirrored[i] = bits.Reverse8(x)
	}
	return ^bits.Reverse32(crc32.ChecksumIEEE(mirrored))
}

// sealed is b and the four bytes of r behind it, the highest first.
func sealed(b []byte, r uint32) []byte {
	return append(bytes.Clone(b), byte(r>>24), byte(r>>16), byte(r>>8), byte(r))
}

// sumIs asks for that sum.
func sumIs(t *testing.T, b []byte, want uint32) {
	t.Helper()
	if got := sum.Sum(b); got != want {
		t.Errorf("Sum of %x: %08X, not %08X", b, got, want)
	}
}

// opens asks for those bytes.
func opens(t *testing.T, b, want []byte) {
	t.Helper()
	if got, ok := sum.Open(b); !ok || !bytes.Equal(got, want) {
		t.Errorf("Open of %x: %x, %v, not %x", b, got, ok, want)
	}
}

// notOpened asks for no, and nothing beside it.
func notOpened(t *testing.T, b []byte) {
	t.Helper()
	if got, ok := sum.Open(b); ok || got != nil {
		t.Errorf("Open of %x: %x, %v", b, got, ok)
	}
}

// samples are texts of every sort that the chapter names.
func samples() [][]byte {
	l := [][]byte{nil, {}, []byte("a"), []byte("hello, world"), []byte("123456789"), rising(), falling()}
	for _, n := range []int{1, 2, 3, 4, 5, 8, 31, 32, 33, 64, 84} {
		l = append(l, alike(n, 0), alike(n, 0xFF), text(n))
	}
	return l
}

// Examples: Sum of nothing: 0xFFFFFFFF; nil is nothing too, and so is what has room alone.
func TestExample(t *testing.T) {
	sumIs(t, nil, 0xFFFFFFFF)
	sumIs(t, []byte{}, 0xFFFFFFFF)
	sumIs(t, text(10)[:0], 0xFFFFFFFF)
}

// P7.1 Sum: sums that were worked out ahead, bit by bit, by another program.
func TestKnownSums(t *testing.T) {
	for _, c := range []struct {
		b    []byte
		want uint32
	}{
		{[]byte{0x00}, 0x4E08BFB4}, {[]byte{0x01}, 0x4AC9A203}, {[]byte{0x7F}, 0x96F31FEE},
		{[]byte{0x80}, 0x27045F5A}, {[]byte{0xFF}, 0xFFFFFF00},
		{[]byte{0x00, 0x01}, 0x047679CA}, {[]byte{0x01, 0x00}, 0xD2AEA5A1},
		{alike(2, 0), 0x00B7647D}, {alike(3, 0), 0xB7647D00}, {alike(4, 0), 0xC704DD7B},
		{alike(5, 0), 0x4710BB9C}, {alike(64, 0), 0x93394E51},
		{alike(2, 0xFF), 0xFFFF0000}, {alike(3, 0xFF), 0xFF000000}, {alike(4, 0xFF), 0x00000000},
		{alike(5, 0xFF), 0xB1F740B4}, {alike(64, 0xFF), 0xA21E790F},
		{[]byte("a"), 0xE66C6494}, {[]byte("abc"), 0x9B73448C}, {[]byte("hello"), 0xE6CE9AC2},
		{[]byte("123456789"), 0x0376E6E7}, {[]byte("hello, world"), 0xBD0822B5},
		{rising(), 0x494A116A}, {falling(), 0xD7FE6DA5},
	} {
		sumIs(t, c.b, c.want)
	}
}

// P7.1 Sum: each of the 256 bytes alone, and behind each other one, so that each byte meets each place of a table.
func TestSumsOfOneByteAndOfTwo(t *testing.T) {
	for x := range 256 {
		sumIs(t, []byte{byte(x)}, bitByBit([]byte{byte(x)}))
		for y := range 256 {
			b := []byte{byte(x), byte(y)}
			sumIs(t, b, bitByBit(b))
		}
	}
}

// P7.1 Sum: texts of all lengths to 300, and long ones, against two ways of reckoning.
func TestSumsOfEachLength(t *testing.T) {
	for n := range 301 {
		for _, b := range [][]byte{text(n), alike(n, 0), alike(n, 0xFF), alike(n, 0x80), alike(n, 0x01)} {
			sumIs(t, b, bitByBit(b))
			sumIs(t, b, byLibrary(b))
		}
	}
	for _, n := range []int{1000, 4096, 1 << 16, 1<<20 + 1} {
		if b := text(n); sum.Sum(b) != byLibrary(b) {
			t.Errorf("%d bytes: %08X, not %08X", n, sum.Sum(b), byLibrary(b))
		}
	}
}

// P7.1 Seal: bytes that were written down ahead; of nothing, the four of its Sum.
func TestKnownSeals(t *testing.T) {
	for _, c := range []struct{ b, want []byte }{
		{nil, []byte{0xFF, 0xFF, 0xFF, 0xFF}},
		{[]byte{}, []byte{0xFF, 0xFF, 0xFF, 0xFF}},
		{[]byte{0x00}, []byte{0x00, 0x4E, 0x08, 0xBF, 0xB4}},
		{[]byte{0xFF}, []byte{0xFF, 0xFF, 0xFF, 0xFF, 0x00}},
		{alike(4, 0xFF), []byte{0xFF, 0xFF, 0xFF, 0xFF, 0, 0, 0, 0}},
		{[]byte("123456789"), []byte("123456789\x03\x76\xE6\xE7")},
		{[]byte("hello, world"), []byte("hello, world\xBD\x08\x22\xB5")},
	} {
		if got := sum.Seal(c.b); !bytes.Equal(got, c.want) {
			t.Errorf("Seal of %x: %x, not %x", c.b, got, c.want)
		}
		opens(t, c.want, c.b)
	}
}

// P7.1 Seal, Open: texts of all lengths to 300, and long ones; what was sealed is opened as it was.
func TestWhatIsSealedIsOpenedAsItWas(t *testing.T) {
	for _, n := range slices.Concat([]int{1 << 16, 1<<20 + 1}, upTo(300)) {
		for _, b := range [][]byte{text(n), alike(n, 0), alike(n, 0xFF)} {
			s := sum.Seal(b)
			if !bytes.Equal(s, sealed(b, byLibrary(b))) {
				t.Fatalf("Seal of %d bytes: not what the chapter says", n)
			}
			if o, ok := sum.Open(s); !ok || !bytes.Equal(o, b) {
				t.Fatalf("Open of %d sealed bytes: %v", n, ok)
			}
		}
	}
}

// upTo is the numbers from 0 to n.
func upTo(n int) []int {
	var l []int
	for i := range n + 1 {
		l = append(l, i)
	}
	return l
}

// P7.1 Seal, Open: each of the 256 bytes, and seals within seals.
func TestSealsOfOneByteAndOfSeals(t *testing.T) {
	for x := range 256 {
		b := []byte{byte(x)}
		opens(t, sum.Seal(b), b)
	}
	b := []byte("hello")
	for range 20 {
		s := sum.Seal(b)
		opens(t, s, b)
		b = s
	}
}

// P7.1 Open: no where there are no four bytes, whichever they are; nil has none.
func TestFewerThanFourBytesAreNotOpened(t *testing.T) {
	notOpened(t, nil)
	notOpened(t, []byte{})
	notOpened(t, alike(8, 0xFF)[:0])
	for x := range 256 {
		for n := 1; n <= 3; n++ {
			notOpened(t, alike(n, byte(x)))
		}
	}
	// What stands behind them in the same room is none of them.
	room := sum.Seal(nil)
	for n := range 4 {
		notOpened(t, room[:n])
	}
}

// P7.1 Open: four bytes are opened as nothing if they are the Sum of nothing, and are not if they are others.
func TestFourBytes(t *testing.T) {
	o, ok := sum.Open([]byte{0xFF, 0xFF, 0xFF, 0xFF})
	if !ok || len(o) != 0 {
		t.Errorf("%x, %v", o, ok)
	}
	for place := range 4 {
		for x := range 255 {
			b := alike(4, 0xFF)
			b[place] = byte(x)
			notOpened(t, b)
		}
	}
	notOpened(t, alike(4, 0))
	notOpened(t, []byte{1, 2, 3, 4})
}

// P7.1 Open: five bytes: of each first one, those that are its Sum and no other last one.
func TestFiveBytes(t *testing.T) {
	for x := range 256 {
		right := bitByBit([]byte{byte(x)})
		for last := range 256 {
			s := sealed([]byte{byte(x)}, right&^0xFF|uint32(last))
			if byte(last) == byte(right) {
				opens(t, s, []byte{byte(x)})
			} else {
				notOpened(t, s)
			}
		}
	}
}

// P7.1 Open, 'What follows': a bit that is turned is told, at each place, in what is sealed and behind it.
func TestABitThatIsTurnedIsTold(t *testing.T) {
	for _, b := range samples() {
		s := sum.Seal(b)
		for i := range 8 * len(s) {
			s[i/8] ^= 1 << (i % 8)
			notOpened(t, s)
			s[i/8] ^= 1 << (i % 8)
		}
		opens(t, s, b)
	}
}

// P7.1 Open: two bits that are turned, at any two places, and any other byte at any place.
func TestMoreBitsThatAreTurnedAreTold(t *testing.T) {
	s := sum.Seal([]byte("hello, world"))
	for i := range 8 * len(s) {
		for j := range i {
			turned := bytes.Clone(s)
			turned[i/8] ^= 1 << (i % 8)
			turned[j/8] ^= 1 << (j % 8)
			notOpened(t, turned)
		}
	}
	for i := range s {
		for x := range 256 {
			turned := bytes.Clone(s)
			turned[i] = byte(x)
			if byte(x) != s[i] {
				notOpened(t, turned)
			}
		}
	}
}

// P7.1 Open: the four bytes in each other order.
func TestTheFourBytesInAnotherOrder(t *testing.T) {
	for _, b := range [][]byte{[]byte("hello"), []byte("123456789"), []byte("hello, world"), {0}, text(64)} {
		s := sum.Seal(b)
		tail := s[len(b):]
		for i := range 256 {
			order := [4]int{i & 3, i >> 2 & 3, i >> 4 & 3, i >> 6}
			mixed := bytes.Clone(b)
			for _, place := range order {
				mixed = append(mixed, tail[place])
			}
			if bytes.Equal(mixed, s) {
				opens(t, mixed, b)
			} else {
				notOpened(t, mixed)
			}
		}
	}
}

// P7.1 Open: bytes that are missing at either end, bytes too many, and the sum ahead instead of behind.
func TestBytesMissingAndBytesTooMany(t *testing.T) {
	s := sum.Seal([]byte("hello, world"))
	for n := range s {
		notOpened(t, s[:n])
		if n > 0 {
			notOpened(t, s[n:])
		}
	}
	for x := range 256 {
		notOpened(t, append([]byte{byte(x)}, s...))
		if x != 0 {
			notOpened(t, append(bytes.Clone(s), byte(x)))
		}
	}
	notOpened(t, slices.Concat(s[12:], s[:12]))
	notOpened(t, []byte("hello, world"))
}

// P7.1 Open: a Sum turned in leaves a register of noughts, which noughts leave as it is: behind a seal, they and its end are a Sum again.
func TestNoughtsBehindASeal(t *testing.T) {
	for _, b := range samples() {
		s := sum.Seal(b)
		sumIs(t, s, 0)
		for range 6 {
			s = append(s, 0)
			if n := len(s) - 4; !bytes.Equal(s, sealed(s[:n], bitByBit(s[:n]))) {
				t.Fatalf("%x: the last four bytes are no Sum", s)
			}
			opens(t, s, s[:len(s)-4])
		}
	}
}

// P7.1 Open: what other sums of that kind would leave: none, all bits turned, a register of noughts, the bits the other way round.
func TestOtherSumsAreNotTaken(t *testing.T) {
	b := []byte("123456789")
	for _, r := range []uint32{0, 0xFFFFFFFF, ^uint32(0x0376E6E7), 0x89A1897F, bits.Reverse32(0x0376E6E7), crc32.ChecksumIEEE(b)} {
		notOpened(t, sealed(b, r))
	}
}

// P7.1 Open: bytes that nobody sealed are opened where the last four are the Sum by the library, and nowhere else.
func TestBytesThatNobodySealed(t *testing.T) {
	for n := 4; n < 600; n++ {
		b := text(n)
		if byLibrary(b[:n-4]) == uint32(b[n-4])<<24|uint32(b[n-3])<<16|uint32(b[n-2])<<8|uint32(b[n-1]) {
			opens(t, b, b[:n-4])
		} else {
			notOpened(t, b)
		}
	}
}

// R3: no call changes what it is handed, nor what stands ahead of it or behind it in the same room.
func TestWhatIsHandedInIsLeftAsItWas(t *testing.T) {
	for _, b := range samples() {
		for _, inner := range [][]byte{b, sum.Seal(b)} {
			room := slices.Concat(alike(9, 0xA5), inner, alike(50, 0x5A))
			before := bytes.Clone(room)
			handed := room[9 : 9+len(inner)]
			sumIs(t, handed, byLibrary(inner))
			if s := sum.Seal(handed); !bytes.Equal(s, sealed(inner, byLibrary(inner))) {
				t.Errorf("Seal of %x: %x", inner, s)
			}
			if o, ok := sum.Open(handed); ok && !bytes.Equal(o, inner[:len(inner)-4]) {
				t.Errorf("Open of %x: %x", inner, o)
			}
			if !bytes.Equal(room, before) {
				t.Errorf("%x: the room is %x now", inner, room)
			}
		}
	}
}

// spoil turns all bytes of b and of its spare room.
func spoil(b []byte) {
	b = b[:cap(b)]
	for i := range b {
		b[i] ^= 0xEE
	}
}

// R3: what is sealed is new memory: neither the bytes handed in, even where their room would do, nor another answer.
func TestSealsAreNewMemory(t *testing.T) {
	for _, b := range samples() {
		room := append(bytes.Clone(b), alike(50, 0x5A)...)
		before := bytes.Clone(room)
		first, second := sum.Seal(room[:len(b)]), sum.Seal(room[:len(b)])
		want := bytes.Clone(first)
		spoil(first)
		if !bytes.Equal(room, before) || !bytes.Equal(second, want) {
			t.Errorf("%x: what is sealed shares memory", b)
		}
		spoil(room)
		if !bytes.Equal(second, want) {
			t.Errorf("%x: what was handed in is kept", b)
		}
	}
}

// R3: what is opened is new memory.
func TestWhatIsOpenedIsNewMemory(t *testing.T) {
	for _, b := range samples() {
		s := sum.Seal(b)
		before := bytes.Clone(s)
		first, _ := sum.Open(s)
		second, _ := sum.Open(s)
		spoil(first)
		if !bytes.Equal(s, before) || !bytes.Equal(second, b) {
			t.Errorf("%x: what is opened shares memory", b)
		}
		spoil(s)
		if !bytes.Equal(second, b) {
			t.Errorf("%x: what was handed in is kept", b)
		}
	}
}

// R4, W6: a call answers the same, whatever was asked and refused between.
func TestCallsAreTheSameEachTime(t *testing.T) {
	for range 20 {
		sum.Sum(text(100))
		sum.Seal(nil)
		sum.Open([]byte{1, 2, 3})
		sum.Open(text(40))
		sumIs(t, nil, 0xFFFFFFFF)
		sumIs(t, []byte("123456789"), 0x0376E6E7)
		opens(t, sum.Seal([]byte("hello")), []byte("hello"))
	}
}
