package field_test

import (
	"bytes"
	"math"
	"testing"

	"girandole/field"
)

// slowProduct follows the chapter's words, with no table: shift, add, and take the modulus off.
func slowProduct(a, b byte) byte {
	p := byte(0)
	for ; b > 0; b >>= 1 {
		if b&1 == 1 {
			p ^= a
		}
		a = slowDouble(a)
	}
	return p
}

func slowDouble(a byte) byte {
	if a&0x80 != 0 {
		return byte((int(a) << 1) ^ 0x11D)
	}
	return a << 1
}

// slowHalve undoes slowDouble.
func slowHalve(a byte) byte {
	if a&1 == 1 {
		return byte((int(a) ^ 0x11D) >> 1)
	}
	return a >> 1
}

// everyByte is 0 to 255, in order.
func everyByte() []byte {
	l := make([]byte, 256)
	for i := range l {
		l[i] = byte(i)
	}
	return l
}

// P1.1: Mul, of all pairs.
func TestMulIsTheProduct(t *testing.T) {
	f := field.New()
	if p := f.Mul(2, 0x80); p != 0x1D {
		t.Fatalf("Mul(2, 0x80): %#x", p)
	}
	for _, a := range everyByte() {
		for _, b := range everyByte() {
			if p := f.Mul(a, b); p != slowProduct(a, b) {
				t.Fatalf("Mul(%d, %d): %d, not %d", a, b, p, slowProduct(a, b))
			}
		}
	}
}

// P1.1: Inv, of all bytes, and the no of 0.
func TestInvGivesOne(t *testing.T) {
	f := field.New()
	if i, ok := f.Inv(0); i != 0 || ok {
		t.Errorf("Inv(0): %d, %v", i, ok)
	}
	for _, a := range everyByte()[1:] {
		if i, ok := f.Inv(a); !ok || slowProduct(i, a) != 1 {
			t.Errorf("Inv(%d): %d, %v", a, i, ok)
		}
	}
}

// P1.1: Div, of all pairs, and the no of each a by 0.
func TestDivUndoesMul(t *testing.T) {
	f := field.New()
	for _, a := range everyByte() {
		if q, ok := f.Div(a, 0); q != 0 || ok {
			t.Errorf("Div(%d, 0): %d, %v", a, q, ok)
		}
		for _, b := range everyByte()[1:] {
			if q, ok := f.Div(a, b); !ok || slowProduct(q, b) != a {
				t.Fatalf("Div(%d, %d): %d, %v", a, b, q, ok)
			}
		}
	}
}

// P1.1: Exp, walked from 0 up and down, some rounds each way.
func TestExpOfEachSign(t *testing.T) {
	f := field.New()
	up, down := byte(1), byte(1)
	for n := range 1100 {
		if e := f.Exp(n); e != up {
			t.Fatalf("Exp(%d): %#x, not %#x", n, e, up)
		}
		if e := f.Exp(-n); e != down {
			t.Fatalf("Exp(%d): %#x, not %#x", -n, e, down)
		}
		up, down = slowDouble(up), slowHalve(down)
	}
}

// P1.1: Exp, at the ends of int. Divided by 255, 2^8 leaves 1, so 2^31 and 2^63 both leave 2^7.
func TestExpAtTheEnds(t *testing.T) {
	f := field.New()
	for _, c := range []struct{ n, same int }{
		{math.MaxInt, 127},
		{math.MaxInt - 127, 0},
		{math.MaxInt - 126, 1},
		{math.MinInt, 127},
		{math.MinInt + 128, 0},
		{math.MinInt + 129, 1},
		{math.MaxInt32, 127},
		{math.MinInt32, 127},
	} {
		if e := f.Exp(c.n); e != f.Exp(c.same) {
			t.Errorf("Exp(%d): %#x, not Exp(%d): %#x", c.n, e, c.same, f.Exp(c.same))
		}
	}
}

// P1.1: Log, of all bytes: the one n from 0 to 254, and the no of 0.
func TestLogUndoesExp(t *testing.T) {
	f := field.New()
	if n, ok := f.Log(0); n != 0 || ok {
		t.Errorf("Log(0): %d, %v", n, ok)
	}
	a := byte(1)
	for n := range 255 {
		if l, ok := f.Log(a); !ok || l != n {
			t.Errorf("Log(%d): %d, %v, not %d", a, l, ok, n)
		}
		a = slowDouble(a)
	}
}

// What follows: it is a field.
func TestLawsOfAField(t *testing.T) {
	f := field.New()
	some := []byte{0, 1, 2, 3, 0x1D, 0x53, 0x7F, 0x80, 0x8E, 0xCA, 0xFE, 0xFF}
	for _, a := range everyByte() {
		if f.Mul(a, 1) != a || f.Mul(a, 0) != 0 {
			t.Errorf("%d by 1 and 0", a)
		}
		for _, b := range everyByte() {
			if f.Mul(a, b) != f.Mul(b, a) {
				t.Fatalf("%d and %d commute not", a, b)
			}
			for _, c := range some {
				if f.Mul(f.Mul(a, b), c) != f.Mul(a, f.Mul(b, c)) {
					t.Fatalf("%d, %d, %d associate not", a, b, c)
				}
				if f.Mul(a, b^c) != f.Mul(a, b)^f.Mul(a, c) {
					t.Fatalf("%d over %d and %d", a, b, c)
				}
			}
		}
	}
}

// P1.2: Axpy, by each byte, of rows of unlike lengths, either one the shorter.
func TestAxpyAddsAMultiple(t *testing.T) {
	f := field.New()
	long := everyByte()
	short := bytes.Repeat([]byte{0xA7, 0, 1, 0x80}, 11)
	for _, c := range everyByte() {
		for _, rows := range [][2][]byte{{long, short}, {short, long}, {long, long}, {short[:1], long[5:6]}} {
			y, x := rows[0], rows[1]
			l := f.Axpy(y, x, c)
			if len(l) != min(len(y), len(x)) {
				t.Fatalf("%d bytes, of %d and %d", len(l), len(y), len(x))
			}
			for i := range l {
				if l[i] != y[i]^slowProduct(c, x[i]) {
					t.Fatalf("place %d of %d and %d times %d: %d", i, y[i], c, x[i], l[i])
				}
			}
		}
	}
}

// P1.2: Dot, of rows of unlike lengths, either one the shorter.
func TestDotSumsProducts(t *testing.T) {
	f := field.New()
	row, turned := everyByte(), everyByte()
	for i := range turned {
		turned[i] = byte(7*i + 3)
	}
	for n := range 257 {
		want := byte(0)
		for i := range n {
			want ^= slowProduct(row[i], turned[i])
		}
		if f.Dot(row[:n], turned) != want || f.Dot(row, turned[:n]) != want || f.Dot(turned[:n], row[:n]) != want {
			t.Fatalf("of %d places: %d, %d, not %d", n, f.Dot(row[:n], turned), f.Dot(row, turned[:n]), want)
		}
	}
}

// P1.2: rows with nothing in them.
func TestNoPlaces(t *testing.T) {
	f := field.New()
	row := []byte{1, 2, 3}
	for _, none := range [][]byte{nil, {}, row[:0]} {
		for _, other := range [][]byte{nil, {}, row} {
			if l := f.Axpy(none, other, 5); len(l) != 0 {
				t.Errorf("Axpy(%v, %v): %v", none, other, l)
			}
			if l := f.Axpy(other, none, 5); len(l) != 0 {
				t.Errorf("Axpy(%v, %v): %v", other, none, l)
			}
			if f.Dot(none, other) != 0 || f.Dot(other, none) != 0 {
				t.Errorf("Dot of %v and %v", none, other)
			}
		}
	}
}

// P1.2, R3: what is handed in stays as it is, behind its end too, and what is told is memory of its own.
func TestRowsAreNotTouched(t *testing.T) {
	f := field.New()
	under := everyByte()
	y, x := under[10:20], under[100:140]
	for _, c := range []byte{0, 1, 2, 0xFF} {
		l := f.Axpy(y, x, c)
		f.Dot(y, x)
		for i := range l {
			l[i] = 0xEE
		}
		_ = append(l, 0xEE, 0xEE)
		if !bytes.Equal(under, everyByte()) {
			t.Fatalf("by %d: the rows were changed", c)
		}
		m := f.Axpy(y, x, c)
		under[10], under[100] = 0xDD, 0xDD
		if m[0] != 10^slowProduct(c, 100) {
			t.Errorf("by %d: the answer hangs on the rows", c)
		}
		under[10], under[100] = 10, 100
	}
}

// P1.2: one row in both places.
func TestOneRowTwice(t *testing.T) {
	f := field.New()
	row := everyByte()
	if l := f.Axpy(row, row, 1); !bytes.Equal(l, make([]byte, 256)) {
		t.Errorf("a row and itself: %v", l)
	}
	if !bytes.Equal(row, everyByte()) {
		t.Error("the row was changed")
	}
}

// P1.2: a nil Field; and one that New did not make, which has no tables either (R1, R3).
func TestNoField(t *testing.T) {
	for name, f := range map[string]*field.Field{"nil": nil, "unmade": new(field.Field)} {
		for _, a := range []byte{0, 1, 2, 0xFF} {
			if f.Mul(a, a) != 0 || f.Mul(a, 1) != 0 {
				t.Errorf("%s: Mul", name)
			}
			if i, ok := f.Inv(a); i != 0 || ok {
				t.Errorf("%s: Inv(%d): %d, %v", name, a, i, ok)
			}
			if q, ok := f.Div(a, 1); q != 0 || ok {
				t.Errorf("%s: Div(%d, 1): %d, %v", name, a, q, ok)
			}
			if n, ok := f.Log(a); n != 0 || ok {
				t.Errorf("%s: Log(%d): %d, %v", name, a, n, ok)
			}
			if l := f.Axpy([]byte{1, 2}, []byte{3, 4}, a); len(l) != 0 {
				t.Errorf("%s: Axpy by %d: %v", name, a, l)
			}
		}
		for _, n := range []int{0, 1, -1, 255, math.MinInt, math.MaxInt} {
			if e := f.Exp(n); e != 0 {
				t.Errorf("%s: Exp(%d): %d", name, n, e)
			}
		}
		if d := f.Dot([]byte{1, 2}, []byte{3, 4}); d != 0 {
			t.Errorf("%s: Dot: %d", name, d)
		}
	}
}

// Ways: the methods can be handed down as values.
func TestMethodValues(t *testing.T) {
	f := field.New()
	mul, dot := f.Mul, f.Dot
	if mul(2, 0x80) != 0x1D || dot([]byte{2, 1}, []byte{0x80, 1}) != 0x1C {
		t.Error("method values")
	}
}

// W6: two Fields, and one Field asked twice, tell the same.
func TestSame(t *testing.T) {
	f, g := field.New(), field.New()
	row := everyByte()
	for range 2 {
		if !bytes.Equal(f.Axpy(row, row, 9), g.Axpy(row, row, 9)) || f.Dot(row, row) != g.Dot(row, row) {
			t.Error("two Fields differ")
		}
	}
}
