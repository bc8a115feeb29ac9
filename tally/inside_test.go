package tally

import (
	"math"
	"testing"

	"girandole/api"
)

// P16.1 Report: Got beyond 32 bits is 2^32 - 1, and Burst beyond 16 bits is 65,535: so many numbers take too long to hand in, and so long a row serial makes none of, so they are laid in from inside.
func TestGreatNumbers(t *testing.T) {
	for _, c := range []struct {
		got, burst uint64
		want       api.Report
	}{
		{math.MaxUint32 - 1, 65534, api.Report{Got: math.MaxUint32 - 1, Burst: 65534}},
		{math.MaxUint32, 65535, api.Report{Got: math.MaxUint32, Burst: 65535}},
		{math.MaxUint32 + 1, 65536, api.Report{Got: math.MaxUint32, Burst: 65535}},
		{1 << 40, 1 << 40, api.Report{Got: math.MaxUint32, Burst: 65535}},
	} {
		y := New()
		y.Got(9)
		c.want.Top, c.want.Lost = 65545, 3
		y.got, y.burst, y.since = c.got, c.burst, c.want.Top-c.got-3
		if r := y.Report(); r != c.want {
			t.Errorf("%d came, %d in a row did not: %+v, not %+v", c.got, c.burst, r, c.want)
		}
	}
}
