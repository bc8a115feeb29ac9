// Package field: bytes that are reckoned with: see doc/01-field.md.
package field

const (
	modulus = 0x11D // x^8 + x^4 + x^3 + x^2 + 1
	order   = 255   // the root's powers come round after so many
)

// Field holds the root's powers and where each byte stands among them.
type Field struct {
	// Two rounds of powers, so that the sum of two logs needs no remainder.
	powers [2 * order]byte
	logs   [256]byte
}

// New makes the tables.
func New() *Field {
	f := &Field{}
	p := byte(1)
	for n := range order {
		f.powers[n], f.powers[n+order] = p, p
		f.logs[p] = byte(n)
		p = double(p)
	}
	return f
}

// double is a times the root.
func double(a byte) byte {
	p := int(a) << 1
	if p&0x100 != 0 {
		p ^= modulus
	}
	return byte(p)
}

// made tells whether f has its tables: a nil Field has none, nor has one that New did not make.
func (f *Field) made() bool { return f != nil && f.powers[0] == 1 }

// Mul is the product of a and b.
func (f *Field) Mul(a, b byte) byte {
	if !f.made() {
		return 0
	}
	return f.product(a, b)
}

// product spares the rows a look for the tables at each of their bytes: it asks that they are made.
func (f *Field) product(a, b byte) byte {
	if a == 0 || b == 0 {
		return 0
	}
	return f.powers[int(f.logs[a])+int(f.logs[b])]
}

// Inv is the byte whose product with a is 1; no: a is 0.
func (f *Field) Inv(a byte) (byte, bool) {
	if !f.made() || a == 0 {
		return 0, false
	}
	return f.powers[order-int(f.logs[a])], true
}

// Div is a times the inverse of b; no: b is 0.
func (f *Field) Div(a, b byte) (byte, bool) {
	i, ok := f.Inv(b)
	if !ok {
		return 0, false
	}
	return f.product(a, i), true
}

// Exp is the root's n-th power, n of any sign.
func (f *Field) Exp(n int) byte {
	if !f.made() {
		return 0
	}
	// The remainder is above -order, so one round more is never below 0 and still within the table.
	return f.powers[n%order+order]
}

// Log is the n from 0 to 254 with Exp(n) = a; no: a is 0.
func (f *Field) Log(a byte) (int, bool) {
	if !f.made() || a == 0 {
		return 0, false
	}
	return int(f.logs[a]), true
}

// Axpy is y and c times x, added, of each place that both have.
func (f *Field) Axpy(y, x []byte, c byte) []byte {
	if !f.made() {
		return nil
	}
	return addMultiple(y, x, c, f.product)
}

// Dot is the sum of the products of the places that both have.
func (f *Field) Dot(x, y []byte) byte {
	if !f.made() {
		return 0
	}
	return sumProducts(x, y, f.product)
}

// addMultiple is y with c times x added, by the product that it is handed.
func addMultiple(y, x []byte, c byte, product func(a, b byte) byte) []byte {
	out := make([]byte, min(len(y), len(x)))
	for i := range out {
		out[i] = y[i] ^ product(c, x[i])
	}
	return out
}

// sumProducts is the sum over x and y, by the product that it is handed.
func sumProducts(x, y []byte, product func(a, b byte) byte) byte {
	s := byte(0)
	for i := range min(len(x), len(y)) {
		s ^= product(x[i], y[i])
	}
	return s
}
