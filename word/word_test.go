package word

import (
	"math"
	"strconv"
	"testing"

	"tombola/api"
)

const most = math.MaxUint64

// samples are words at both ends, around every edge of a byte and of a half, and some without pattern.
func samples() []uint64 {
	l := []uint64{0, 1, 2, 3, 5, 255, 256, 1<<32 - 1, 1 << 32, 1<<32 + 1, 1<<63 - 1, 1 << 63, 1<<63 + 1, most - 1, most}
	x := uint64(88172645463325252)
	for i := range 12 {
		x ^= x << 13
		x ^= x >> 7
		x ^= x << 17
		l = append(l, x, x>>(5*i))
	}
	return l
}

// few are enough where four words are combined.
func few() []uint64 {
	return []uint64{0, 1, 2, 7, 1<<32 + 5, 1 << 63, 0x9e3779b97f4a7c15, most - 1, most}
}

// slowAdd adds by halves, whose sums a word holds.
func slowAdd(a, b, carry uint64) (sum, out uint64) {
	const half = 1<<32 - 1
	low := a&half + b&half + carry
	high := a>>32 + b>>32 + low>>32
	return high<<32 | low&half, high >> 32
}

// slowMul adds a, shifted, for each bit of b.
func slowMul(a, b uint64) (high, low uint64) {
	for i := 63; i >= 0; i-- {
		high = high<<1 | low>>63
		low <<= 1
		if b>>i&1 == 1 {
			var c uint64
			low, c = slowAdd(low, a, 0)
			high += c
		}
	}
	return high, low
}

// slowDiv divides bit by bit; high is below d.
func slowDiv(high, low, d uint64) (q, r uint64) {
	r = high
	for i := 63; i >= 0; i-- {
		over := r >> 63
		r = r<<1 | low>>i&1
		if over == 1 || r >= d {
			r -= d
			q |= 1 << i
		}
	}
	return q, r
}

// slowLen is the length of the word as it is written to base 2.
func slowLen(a uint64) int {
	if a == 0 {
		return 0
	}
	return len(strconv.FormatUint(a, 2))
}

// atMost says whether the first two words are no greater than the others.
func atMost(h1, l1, h2, l2 uint64) bool {
	return h1 < h2 || h1 == h2 && l1 <= l2
}

// P1.1: sums, and when they carry.
func TestP1_1_Add(t *testing.T) {
	cases := []struct{ a, b, carry, sum, out uint64 }{
		{0, 0, 0, 0, 0},
		{0, 0, 1, 1, 0},
		{1, 2, 0, 3, 0},
		{most, 1, 0, 0, 1},
		{most, 0, 1, 0, 1},
		{most, 0, 0, most, 0},
		{most, most, 0, most - 1, 1},
		{most, most, 1, most, 1},
		{1 << 63, 1<<63 - 1, 0, most, 0},
		{1 << 63, 1<<63 - 1, 1, 0, 1},
		{1, 2, 2, 4, 0},
		{1, 2, most, 4, 0},
		{most, most, most, most, 1},
		{most, 0, 1 << 63, 0, 1},
	}
	for _, c := range cases {
		if sum, out := Add(c.a, c.b, c.carry); sum != c.sum || out != c.out {
			t.Errorf("Add(%d, %d, %d) = %d, %d", c.a, c.b, c.carry, sum, out)
		}
	}
	for _, a := range samples() {
		for _, b := range samples() {
			for _, carry := range []uint64{0, 1} {
				wantSum, wantOut := slowAdd(a, b, carry)
				if sum, out := Add(a, b, carry); sum != wantSum || out != wantOut {
					t.Errorf("Add(%d, %d, %d) = %d, %d", a, b, carry, sum, out)
				}
			}
		}
	}
}

// P1.1: differences, and when they borrow.
func TestP1_1_Sub(t *testing.T) {
	cases := []struct{ a, b, borrow, diff, out uint64 }{
		{0, 0, 0, 0, 0},
		{5, 3, 0, 2, 0},
		{5, 3, 1, 1, 0},
		{3, 3, 0, 0, 0},
		{3, 3, 1, most, 1},
		{0, 1, 0, most, 1},
		{0, 0, 1, most, 1},
		{0, most, 0, 1, 1},
		{0, most, 1, 0, 1},
		{most, most, 1, most, 1},
		{most, 0, 1, most - 1, 0},
		{1 << 63, 1, 0, 1<<63 - 1, 0},
		{5, 3, 2, 1, 0},
		{5, 3, most, 1, 0},
		{0, 0, 1 << 63, most, 1},
	}
	for _, c := range cases {
		if diff, out := Sub(c.a, c.b, c.borrow); diff != c.diff || out != c.out {
			t.Errorf("Sub(%d, %d, %d) = %d, %d", c.a, c.b, c.borrow, diff, out)
		}
	}
	for _, a := range samples() {
		for _, b := range samples() {
			for _, borrow := range []uint64{0, 1} {
				// a less b is a plus the complement of b plus 1, which carries unless it is negative
				wantDiff, carried := slowAdd(a, ^b, 1-borrow)
				if diff, out := Sub(a, b, borrow); diff != wantDiff || out != 1-carried {
					t.Errorf("Sub(%d, %d, %d) = %d, %d", a, b, borrow, diff, out)
				}
			}
		}
	}
}

// P1.2: products as two words.
func TestP1_2_Mul(t *testing.T) {
	cases := []struct{ a, b, high, low uint64 }{
		{0, 0, 0, 0},
		{0, most, 0, 0},
		{1, most, 0, most},
		{6, 7, 0, 42},
		{2, most, 1, most - 1},
		{1 << 32, 1 << 32, 1, 0},
		{1 << 63, 2, 1, 0},
		{1 << 63, 1 << 63, 1 << 62, 0},
		{most, most, most - 1, 1},
	}
	for _, c := range cases {
		if high, low := Mul(c.a, c.b); high != c.high || low != c.low {
			t.Errorf("Mul(%d, %d) = %d, %d", c.a, c.b, high, low)
		}
	}
	for _, a := range samples() {
		for _, b := range samples() {
			wantHigh, wantLow := slowMul(a, b)
			if high, low := Mul(a, b); high != wantHigh || low != wantLow {
				t.Errorf("Mul(%d, %d) = %d, %d", a, b, high, low)
			}
		}
	}
}

// P1.2 and the errors: quotients and remainders, ErrZero ahead of ErrLong, nothing beside an error.
func TestP1_2_Div(t *testing.T) {
	cases := []struct {
		high, low, d, q, r uint64
		e                  api.Errno
	}{
		{0, 0, 1, 0, 0, api.OK},
		{0, 42, 5, 8, 2, api.OK},
		{0, most, 1, most, 0, api.OK},
		{0, most, most, 1, 0, api.OK},
		{1, 0, 2, 1 << 63, 0, api.OK},
		{1, 1, 3, 0x5555555555555555, 2, api.OK},
		{most - 1, 1, most, most, 0, api.OK},
		{most - 1, most, most, most, most - 1, api.OK},
		{1<<63 - 1, most, 1 << 63, most, 1<<63 - 1, api.OK},
		{0, 0, 0, 0, 0, api.ErrZero},
		{0, 7, 0, 0, 0, api.ErrZero},
		{1, 0, 0, 0, 0, api.ErrZero},
		{most, most, 0, 0, 0, api.ErrZero},
		{1, 0, 1, 0, 0, api.ErrLong},
		{3, 0, 3, 0, 0, api.ErrLong},
		{4, 9, 3, 0, 0, api.ErrLong},
		{most, 0, most, 0, 0, api.ErrLong},
		{most, most, 1, 0, 0, api.ErrLong},
	}
	for _, c := range cases {
		if q, r, e := Div(c.high, c.low, c.d); q != c.q || r != c.r || e != c.e {
			t.Errorf("Div(%d, %d, %d) = %d, %d, %d", c.high, c.low, c.d, q, r, e)
		}
	}
	for _, high := range samples() {
		for _, low := range samples() {
			for _, d := range samples() {
				if high >= d {
					continue
				}
				wantQ, wantR := slowDiv(high, low, d)
				if q, r, e := Div(high, low, d); q != wantQ || r != wantR || e != api.OK {
					t.Errorf("Div(%d, %d, %d) = %d, %d, %d", high, low, d, q, r, e)
				}
			}
		}
	}
}

// P1.3: lengths.
func TestP1_3_Len(t *testing.T) {
	for a, want := range map[uint64]int{0: 0, 1: 1, 2: 2, 3: 2, 127: 7, 128: 8, 255: 8, 256: 9, 257: 9, 65535: 16, 65536: 17, 1<<63 - 1: 63, 1 << 63: 64, most: 64} {
		if n := Len(a); n != want {
			t.Errorf("Len(%d) = %d", a, n)
		}
	}
	for _, a := range samples() {
		if n := Len(a); n != slowLen(a) {
			t.Errorf("Len(%d) = %d", a, n)
		}
	}
}

// P1.3: a shift to the left by every number of bits.
func TestP1_3_Shl(t *testing.T) {
	cases := []struct {
		a         uint64
		n         int
		high, low uint64
	}{
		{3, 0, 0, 3},
		{3, 63, 1, 1 << 63},
		{3, 64, 3, 0},
		{5, 62, 1, 1 << 62},
		{0, 64, 0, 0},
		{most, 0, 0, most},
		{most, 1, 1, most - 1},
		{most, 63, most >> 1, 1 << 63},
		{most, 64, most, 0},
	}
	for _, c := range cases {
		if high, low, e := Shl(c.a, c.n); high != c.high || low != c.low || e != api.OK {
			t.Errorf("Shl(%d, %d) = %d, %d, %d", c.a, c.n, high, low, e)
		}
	}
	for _, a := range samples() {
		wantHigh, wantLow := uint64(0), a
		for n := range 65 {
			if high, low, e := Shl(a, n); high != wantHigh || low != wantLow || e != api.OK {
				t.Errorf("Shl(%d, %d) = %d, %d, %d", a, n, high, low, e)
			}
			wantHigh, wantLow = wantHigh<<1|wantLow>>63, wantLow<<1
		}
	}
}

// P1.3: a shift to the right by every number of bits.
func TestP1_3_Shr(t *testing.T) {
	cases := []struct {
		high, low uint64
		n         int
		want      uint64
	}{
		{1, 1 << 63, 63, 3},
		{1, 1 << 62, 62, 5},
		{7, 1, 0, 1},
		{7, 1, 1, 1 << 63},
		{7, 1, 63, 14},
		{7, 1, 64, 7},
		{most, most, 0, most},
		{most, most, 63, most},
		{most, 0, 64, most},
		{0, most, 64, 0},
		{0, most, 63, 1},
	}
	for _, c := range cases {
		if x, e := Shr(c.high, c.low, c.n); x != c.want || e != api.OK {
			t.Errorf("Shr(%d, %d, %d) = %d, %d", c.high, c.low, c.n, x, e)
		}
	}
	for _, high := range samples() {
		for _, low := range samples() {
			h, want := high, low
			for n := range 65 {
				if x, e := Shr(high, low, n); x != want || e != api.OK {
					t.Errorf("Shr(%d, %d, %d) = %d, %d", high, low, n, x, e)
				}
				h, want = h>>1, want>>1|h<<63
			}
		}
	}
}

// P1.3 and the errors, R1: shifts out of range are refused, with nothing beside the error.
func TestP1_3_ShiftsRefused(t *testing.T) {
	for _, n := range []int{-1, -2, -63, -64, -65, math.MinInt, 65, 66, 127, 128, 1 << 32, math.MaxInt} {
		for _, a := range few() {
			if high, low, e := Shl(a, n); high != 0 || low != 0 || e != api.ErrArg {
				t.Errorf("Shl(%d, %d) = %d, %d, %d", a, n, high, low, e)
			}
			for _, b := range few() {
				if x, e := Shr(a, b, n); x != 0 || e != api.ErrArg {
					t.Errorf("Shr(%d, %d, %d) = %d, %d", a, b, n, x, e)
				}
			}
		}
	}
}

// P1.4: subtraction undoes addition, and borrows when too much is subtracted.
func TestP1_4_Back(t *testing.T) {
	for _, a := range samples() {
		for _, b := range samples() {
			for _, c := range []uint64{0, 1, 2, most} {
				sum, carried := Add(a, b, c)
				if back, borrowed := Sub(sum, b, c); back != a || borrowed != carried {
					t.Errorf("Sub of Add(%d, %d, %d) = %d, %d", a, b, c, back, borrowed)
				}
				more := a < b || a == b && c != 0
				if _, borrowed := Sub(a, b, c); (borrowed == 1) != more || borrowed > 1 {
					t.Errorf("Sub(%d, %d, %d) borrows %d", a, b, c, borrowed)
				}
			}
		}
	}
}

// P1.5: products commute.
func TestP1_5_Commutative(t *testing.T) {
	for _, a := range samples() {
		for _, b := range samples() {
			h1, l1 := Mul(a, b)
			if h2, l2 := Mul(b, a); h1 != h2 || l1 != l2 {
				t.Errorf("Mul(%d, %d) = %d, %d; the other way %d, %d", a, b, h1, l1, h2, l2)
			}
		}
	}
}

// P1.5: a times (b + c + carry) is a times b plus a times c plus a times carry, in three words.
func TestP1_5_Distributive(t *testing.T) {
	for _, a := range samples() {
		for _, b := range samples() {
			for _, c := range few() {
				for _, carry := range []uint64{0, 1} {
					distribute(t, a, b, c, carry)
				}
			}
		}
	}
}

func distribute(t *testing.T, a, b, c, carry uint64) {
	sum, out := Add(b, c, carry)
	high, low := Mul(a, sum)
	overHigh, overLow := Mul(a, out) // stands one word higher
	mid, top := Add(high, overLow, 0)
	top += overHigh

	h1, l1 := Mul(a, b)
	h2, l2 := Mul(a, c)
	h3, l3 := Mul(a, carry)
	wantLow, c1 := Add(l1, l2, 0)
	wantMid, wantTop := Add(h1, h2, c1)
	wantLow, c2 := Add(wantLow, l3, 0)
	wantMid, c3 := Add(wantMid, h3, c2)
	wantTop += c3
	if low != wantLow || mid != wantMid || top != wantTop {
		t.Errorf("%d times the sum of %d, %d, %d: %d %d %d, by parts %d %d %d", a, b, c, carry, top, mid, low, wantTop, wantMid, wantLow)
	}
}

// P1.6: the quotient times d, plus the remainder, is the two words again.
func TestP1_6_BackFromQuotient(t *testing.T) {
	for _, d := range samples() {
		for _, low := range samples() {
			for _, high := range samples() {
				if high >= d {
					continue
				}
				q, r, e := Div(high, low, d)
				if e != api.OK || r >= d {
					t.Errorf("Div(%d, %d, %d): remainder %d, error %d", high, low, d, r, e)
				}
				h, l := Mul(q, d)
				l, c := Add(l, r, 0)
				if h, c = Add(h, 0, c); h != high || l != low || c != 0 {
					t.Errorf("Div(%d, %d, %d) = %d, %d, which make %d, %d", high, low, d, q, r, h, l)
				}
			}
		}
	}
}

// P1.6: q times d plus r is divided into q and r.
func TestP1_6_BackFromProduct(t *testing.T) {
	for _, d := range samples() {
		for _, q := range samples() {
			for _, r := range samples() {
				if r >= d {
					continue
				}
				h, l := Mul(q, d)
				l, c := Add(l, r, 0)
				h, _ = Add(h, 0, c)
				if q2, r2, e := Div(h, l, d); q2 != q || r2 != r || e != api.OK {
					t.Errorf("Div of %d times %d plus %d: %d, %d, %d", q, d, r, q2, r2, e)
				}
			}
		}
	}
}

// P1.7: a word lies between the powers of 2 that its length tells.
func TestP1_7_Bounds(t *testing.T) {
	words := samples()
	for n := range 64 {
		p := uint64(1) << n
		words = append(words, p-1, p, p+1)
	}
	for _, a := range words {
		n := Len(a)
		if n < 0 || n > 64 || n < 64 && a >= 1<<n || n == 0 && a != 0 || n > 0 && a < 1<<(n-1) {
			t.Errorf("Len(%d) = %d", a, n)
		}
		for _, b := range words {
			if a > b && n < Len(b) {
				t.Errorf("Len(%d) = %d is less than Len(%d) = %d", a, n, b, Len(b))
			}
		}
	}
}

// P1.8: Shl multiplies by a power of 2, and Shr undoes it.
func TestP1_8_Powers(t *testing.T) {
	for _, a := range samples() {
		for n := range 65 {
			high, low, e := Shl(a, n)
			if e != api.OK {
				t.Errorf("Shl(%d, %d): error %d", a, n, e)
			}
			wantHigh, wantLow := a, uint64(0) // 2^64 is no word
			if n < 64 {
				wantHigh, wantLow = Mul(a, 1<<n)
			}
			if high != wantHigh || low != wantLow {
				t.Errorf("Shl(%d, %d) = %d, %d", a, n, high, low)
			}
			if back, e := Shr(high, low, n); back != a || e != api.OK {
				t.Errorf("Shr of Shl(%d, %d) = %d, %d", a, n, back, e)
			}
		}
	}
}

// P1.8: Shr by n and then by m is Shr by their sum.
func TestP1_8_Sums(t *testing.T) {
	for _, high := range few() {
		for _, low := range few() {
			for n := range 65 {
				upper, _ := Shr(0, high, n)
				lower, _ := Shr(high, low, n)
				for m := range 65 - n {
					twice, e1 := Shr(upper, lower, m)
					once, e2 := Shr(high, low, n+m)
					if twice != once || e1 != api.OK || e2 != api.OK {
						t.Errorf("Shr(%d, %d) by %d, then by %d: %d; at once %d", high, low, n, m, twice, once)
					}
				}
			}
		}
	}
}

// P1.8: Shr rounds down: what it drops is less than the power of 2.
func TestP1_8_Rounding(t *testing.T) {
	for _, high := range few() {
		for _, low := range few() {
			for n := range 65 {
				upper, _ := Shr(0, high, n)
				lower, _ := Shr(high, low, n)
				h, l, _ := Shl(lower, n)
				h |= upper << n
				gap, b := Sub(low, l, 0)
				over, _ := Sub(high, h, b)
				if !atMost(h, l, high, low) || over != 0 || n < 64 && gap >= 1<<n {
					t.Errorf("Shr(%d, %d, %d) drops %d, %d", high, low, n, over, gap)
				}
			}
		}
	}
}
