package rat

import (
	"cmp"
	"math"
	"math/bits"
	"slices"
	"strconv"
	"strings"
	"testing"

	"tombola/api"
	"tombola/dec"
	"tombola/nat"
	"tombola/quo"
	"tombola/whole"
)

const (
	most = math.MaxUint64
	half = 1 << 63
)

// scramble makes words without pattern, always the same ones.
func scramble(x *uint64) uint64 {
	*x ^= *x << 13
	*x ^= *x >> 7
	*x ^= *x << 17
	return *x
}

// nats are natural numbers at the edges of words and limbs, and some without pattern; all but the first are above 0.
func nats() []api.Nat {
	l := []api.Nat{
		nil, {1}, {2}, {3}, {4}, {6}, {10}, {255}, {1 << 32}, {half - 1}, {half}, {most}, {0, 1}, {1, 1}, {0, 6},
		{most, half}, {most, most}, {0, 0, 1}, {1, 0, 1},
	}
	x := uint64(88172645463325252)
	for _, n := range []int{1, 2, 3} {
		a := make(api.Nat, n)
		for i := range a {
			a[i] = scramble(&x)
		}
		l = append(l, a)
	}
	return l
}

// samples are valid fractions of both signs, no two of them equal: of each pair of parts one is a power of 2 and the
// other one odd, or they are 1 apart, so that nothing has to be divided out.
func samples() []api.Rat {
	pairs := []struct{ num, den api.Nat }{
		{api.Nat{1}, api.Nat{1}}, {api.Nat{2}, api.Nat{1}}, {api.Nat{7}, api.Nat{1}}, {api.Nat{most}, api.Nat{1}},
		{api.Nat{0, 0, 1}, api.Nat{1}}, {api.Nat{1}, api.Nat{2}}, {api.Nat{1}, api.Nat{3}}, {api.Nat{2}, api.Nat{3}},
		{api.Nat{3}, api.Nat{2}}, {api.Nat{3}, api.Nat{4}}, {api.Nat{5}, api.Nat{6}}, {api.Nat{1}, api.Nat{most}},
		{api.Nat{1}, api.Nat{0, 1}}, {api.Nat{most}, api.Nat{0, 1}}, {api.Nat{0, 1}, api.Nat{most}},
		{api.Nat{0, 1}, api.Nat{3}}, {api.Nat{1, 1}, api.Nat{0, 1}}, {api.Nat{half}, api.Nat{1, 1}},
		{api.Nat{most, most}, api.Nat{0, 0, 1}}, {api.Nat{1, 0, 1}, api.Nat{0, 0, 1}},
		{api.Nat{0x9e3779b97f4a7c15, 0xbf58476d1ce4e5b9}, api.Nat{0, 1 << 17}},
		{api.Nat{0, 1 << 17}, api.Nat{0x94d049bb133111eb, 0x2545f4914f6cdd1d, 77}},
	}
	l := []api.Rat{{Den: api.Nat{1}}}
	for _, p := range pairs {
		for _, neg := range []bool{false, true} {
			l = append(l, api.Rat{Num: api.Int{Neg: neg, Mag: p.num}, Den: p.den})
		}
	}
	return l
}

// few are enough where three fractions are combined.
func few() []api.Rat {
	var l []api.Rat
	for i, a := range samples() {
		if i%4 == 0 || i > 38 { // the long ones come last
			l = append(l, a)
		}
	}
	return l
}

// zeros are spellings of 0, valid only the first one.
func zeros() []api.Rat {
	return []api.Rat{
		{Den: api.Nat{1}},
		{Num: api.Int{Neg: true}, Den: api.Nat{1}},
		{Num: api.Int{Neg: true, Mag: api.Nat{0}}, Den: api.Nat{1}},
		{Num: api.Int{Mag: api.Nat{0, 0}}, Den: api.Nat{1, 0}},
		{Den: api.Nat{2}},
		{Den: api.Nat{0, 0, 6}},
		{},
		{Den: api.Nat{}},
		{Den: api.Nat{0, 0}},
		{Num: api.Int{Neg: true}},
		{Num: api.Int{Mag: api.Nat{1}}},
		{Num: api.Int{Neg: true, Mag: api.Nat{7, 5}}, Den: api.Nat{0}},
	}
}

// spellings are a valid fraction, first as it is, and then others of its value, none of them valid.
func spellings(a api.Rat) []api.Rat {
	if len(a.Num.Mag) == 0 {
		return zeros()
	}
	l := []api.Rat{
		a,
		{Num: api.Int{Neg: a.Num.Neg, Mag: append(slices.Clone(a.Num.Mag), 0)}, Den: a.Den},
		{Num: a.Num, Den: append(slices.Clone(a.Den), 0, 0)},
	}
	for _, c := range []api.Nat{{2}, {15}, {0, 1}, {most, 3}} {
		l = append(l, api.Rat{Num: api.Int{Neg: a.Num.Neg, Mag: nat.Mul(a.Num.Mag, c)}, Den: nat.Mul(a.Den, c)})
	}
	return l
}

func same(a, b api.Rat) bool {
	return a.Num.Neg == b.Num.Neg && slices.Equal(a.Num.Mag, b.Num.Mag) && slices.Equal(a.Den, b.Den)
}

// equal holds a result against a valid fraction, field by field.
func equal(t *testing.T, what string, got, want api.Rat) {
	t.Helper()
	if !same(got, want) {
		t.Fatalf("%s: %v, want %v", what, got, want)
	}
}

// nothing holds what stands beside an error against the zero value.
func nothing(t *testing.T, what string, got api.Rat, e, want api.Errno) {
	t.Helper()
	if e != want {
		t.Fatalf("%s: error %d, want %d", what, e, want)
	}
	equal(t, what, got, api.Rat{})
}

// fine is for calls that are not refused: got := fine(t), and then got(Quo(a, b)).
func fine(t *testing.T) func(a api.Rat, e api.Errno) api.Rat {
	t.Helper()
	return func(a api.Rat, e api.Errno) api.Rat {
		t.Helper()
		if e != api.OK {
			t.Fatalf("error %d", e)
		}
		return a
	}
}

// plain is n over d in lowest terms, by the language's own arithmetic; d is not 0, and both are small.
func plain(n, d int64) api.Rat {
	x, y := max(n, -n), max(d, -d)
	for y != 0 {
		x, y = y, x%y
	}
	n, d = n/x, d/x
	a := api.Rat{Num: api.Int{Neg: n < 0 != (d < 0) && n != 0}, Den: api.Nat{uint64(max(d, -d))}}
	if n != 0 {
		a.Num.Mag = api.Nat{uint64(max(n, -n))}
	}
	return a
}

// small goes over small fractions, in lowest terms and not.
func small(yield func(n, d int64) bool) {
	for n := int64(-8); n <= 8; n++ {
		for d := int64(1); d <= 8; d++ {
			if !yield(n, d) {
				return
			}
		}
	}
}

// raw is n over d as it stands, d being above 0.
func raw(n, d int64) api.Rat {
	return api.Rat{Num: api.Int{Neg: n < 0, Mag: api.Nat{uint64(max(n, -n))}}, Den: api.Nat{uint64(d)}}
}

// A field of these tests are the numbers below a prime: what holds for fractions holds for their images there, and to
// find an image asks for nothing that package rat has. None of the primes divides a sample's part, so that each image
// but that of 0 has an inverse.
type field uint64

var primes = []field{1<<61 - 1, 18446744073709551557, 1000000007}

func (p field) times(x, y uint64) uint64 {
	high, low := bits.Mul64(x, y)
	return bits.Rem64(high, low, uint64(p))
}

func (p field) plus(x, y uint64) uint64 {
	sum, carry := bits.Add64(x, y, 0)
	return bits.Rem64(carry, sum, uint64(p))
}

func (p field) minus(x uint64) uint64 {
	return (uint64(p) - x) % uint64(p)
}

// inverse is x to the power of p - 2.
func (p field) inverse(x uint64) uint64 {
	y := uint64(1)
	for i := 63; i >= 0; i-- {
		y = p.times(y, y)
		if uint64(p-2)>>i&1 == 1 {
			y = p.times(y, x)
		}
	}
	return y
}

func (p field) of(a api.Rat) uint64 {
	num := p.ofNat(a.Num.Mag)
	if a.Num.Neg {
		num = p.minus(num)
	}
	return p.times(num, p.inverse(p.ofNat(a.Den)))
}

func (p field) ofNat(a api.Nat) uint64 {
	rest := uint64(0)
	for _, limb := range slices.Backward(a) {
		rest = bits.Rem64(rest, limb, uint64(p))
	}
	return rest
}

// images holds a result, which must be valid, against its image under each prime.
func images(t *testing.T, what string, got api.Rat, want func(p field) uint64) {
	t.Helper()
	valid(t, what, got)
	for _, p := range primes {
		if p.of(got) != want(p) {
			t.Fatalf("%s: %v, whose image is not %d", what, got, want(p))
		}
	}
}

// valid asks for S1's words: the form that results have, and no common divisor above 1.
func valid(t *testing.T, what string, a api.Rat) {
	t.Helper()
	n, d := a.Num.Mag, a.Den
	bare := (len(n) == 0 || n[len(n)-1] != 0) && len(d) > 0 && d[len(d)-1] != 0
	if !bare || len(n) == 0 && a.Num.Neg || !slices.Equal(quo.Gcd(n, d), api.Nat{1}) {
		t.Fatalf("%s: %v is not valid", what, a)
	}
}

// compare orders two fractions by their continued ones, without a product; the numerators of both are not negative.
func compare(n1, d1, n2, d2 api.Nat) int {
	q1, r1, _ := quo.Div(n1, d1)
	q2, r2, _ := quo.Div(n2, d2)
	switch {
	case nat.Cmp(q1, q2) != 0:
		return nat.Cmp(q1, q2)
	case nat.Zero(r1) || nat.Zero(r2):
		return nat.Cmp(r1, r2)
	}
	return compare(d2, r2, d1, r1)
}

// order is Cmp of valid fractions, by compare.
func order(a, b api.Rat) int {
	switch {
	case a.Num.Neg && b.Num.Neg:
		return compare(b.Num.Mag, b.Den, a.Num.Mag, a.Den)
	case a.Num.Neg:
		return -1
	case b.Num.Neg:
		return 1
	}
	return compare(a.Num.Mag, a.Den, b.Num.Mag, b.Den)
}

// P6.1: Make brings its parts to lowest terms: the chapter's examples, and 0.
func TestP6_1_Make(t *testing.T) {
	got := fine(t)
	for _, c := range []struct {
		neg      bool
		num, den api.Nat
		want     api.Rat
	}{
		{false, api.Nat{4}, api.Nat{6}, plain(2, 3)},
		{true, api.Nat{4}, api.Nat{6}, plain(-2, 3)},
		{true, nil, api.Nat{5}, plain(0, 1)},
		{true, api.Nat{0}, api.Nat{5}, plain(0, 1)},
		{false, nil, api.Nat{0, 5}, plain(0, 1)},
		{false, api.Nat{0, 0}, api.Nat{5, 0}, plain(0, 1)},
		{false, api.Nat{5, 0}, api.Nat{1, 0, 0}, plain(5, 1)},
		{false, api.Nat{6}, api.Nat{6}, plain(1, 1)},
		{true, api.Nat{6}, api.Nat{3}, plain(-2, 1)},
		{false, api.Nat{0, 4}, api.Nat{0, 6}, plain(2, 3)},
		{true, api.Nat{0, 4, 0}, api.Nat{0, 6, 0}, plain(-2, 3)},
		{false, api.Nat{0, 0, 1}, api.Nat{0, 1}, api.Rat{Num: api.Int{Mag: api.Nat{0, 1}}, Den: api.Nat{1}}},
		{true, api.Nat{0, 1}, api.Nat{0, 0, 1}, api.Rat{Num: api.Int{Neg: true, Mag: api.Nat{1}}, Den: api.Nat{0, 1}}},
	} {
		equal(t, "Make", got(Make(api.Int{Neg: c.neg, Mag: c.num}, c.den)), c.want)
	}
	for n, d := range small {
		a := raw(n, d)
		equal(t, "Make", got(Make(a.Num, a.Den)), plain(n, d))
	}
	for _, want := range samples() {
		for _, a := range spellings(want) {
			if !nat.Zero(a.Den) {
				equal(t, "Make", got(Make(a.Num, a.Den)), want)
			}
		}
	}
}

// P6.1: the denominator 0 is refused, however it is spelt and whatever stands above it.
func TestP6_1_MakeOverZero(t *testing.T) {
	for _, den := range []api.Nat{nil, {}, {0}, {0, 0, 0}} {
		for _, num := range []api.Int{{}, {Neg: true}, {Mag: api.Nat{1}}, {Neg: true, Mag: api.Nat{7, 7}}, {Mag: api.Nat{0}}} {
			a, e := Make(num, den)
			nothing(t, "Make", a, e, api.ErrZero)
		}
	}
}

// P6.1: May holds for fractions in lowest terms in the form that results have, and for no others.
func TestP6_1_May(t *testing.T) {
	for _, a := range samples() {
		for i, b := range spellings(a) {
			if May(b) != (i == 0) {
				t.Errorf("May(%v) = %t", b, May(b))
			}
		}
	}
	for _, a := range []api.Rat{
		{Num: api.Int{Mag: api.Nat{}}, Den: api.Nat{1}},
		{Num: api.Int{Mag: api.Nat{0, 1}}, Den: api.Nat{1}},
		{Num: api.Int{Neg: true, Mag: api.Nat{1}}, Den: api.Nat{0, 1}},
	} {
		if !May(a) {
			t.Errorf("May(%v) = false", a)
		}
	}
	for _, a := range []api.Rat{
		{},
		{Num: api.Int{Mag: api.Nat{1}}},
		{Num: api.Int{Mag: api.Nat{1}}, Den: api.Nat{}},
		{Num: api.Int{Mag: api.Nat{1}}, Den: api.Nat{0}},
		{Num: api.Int{Mag: api.Nat{5}}, Den: api.Nat{0}},
		{Num: api.Int{Mag: api.Nat{0}}, Den: api.Nat{1}},
		{Num: api.Int{Neg: true}, Den: api.Nat{1}},
		{Num: api.Int{Mag: api.Nat{1, 0}}, Den: api.Nat{1}},
		{Num: api.Int{Mag: api.Nat{1}}, Den: api.Nat{1, 0}},
		{Num: api.Int{Mag: api.Nat{0, 1}}, Den: api.Nat{2}},
		{Num: api.Int{Mag: api.Nat{0, 1}}, Den: api.Nat{0, 1}},
		{Num: api.Int{Neg: true, Mag: api.Nat{most}}, Den: api.Nat{3}},
	} {
		if May(a) {
			t.Errorf("May(%v) = true", a)
		}
	}
	for n, d := range small {
		a := raw(n, d)
		if n == 0 {
			a.Num.Mag = nil
		}
		if want := plain(n, d).Den[0] == uint64(d); May(a) != want {
			t.Errorf("May(%d/%d) = %t", n, d, May(a))
		}
	}
}

// P6.1: whole numbers.
func TestP6_1_Of(t *testing.T) {
	for _, n := range []int64{0, 1, -1, 2, -2, 17, -17, 1 << 40, math.MaxInt64, -math.MaxInt64} {
		equal(t, "Of", Of(n), plain(n, 1))
	}
	equal(t, "Of", Of(math.MinInt64), api.Rat{Num: api.Int{Neg: true, Mag: api.Nat{half}}, Den: api.Nat{1}})
}

// P6.1: n over d, both of any sign; 0 below is refused.
func TestP6_1_Over(t *testing.T) {
	got := fine(t)
	for n, d := range small {
		equal(t, "Over", got(Over(n, d)), plain(n, d))
		equal(t, "Over", got(Over(n, -d)), plain(n, -d))
	}
	const least, greatest = math.MinInt64, math.MaxInt64
	for _, c := range []struct {
		n, d int64
		want api.Rat
	}{
		{1, -2, plain(-1, 2)},
		{6, -3, plain(-2, 1)},
		{0, least, plain(0, 1)},
		{least, least, plain(1, 1)},
		{greatest, greatest, plain(1, 1)},
		{-greatest, greatest, plain(-1, 1)},
		{least, -1, api.Rat{Num: api.Int{Mag: api.Nat{half}}, Den: api.Nat{1}}},
		{least, 1, api.Rat{Num: api.Int{Neg: true, Mag: api.Nat{half}}, Den: api.Nat{1}}},
		{1, least, api.Rat{Num: api.Int{Neg: true, Mag: api.Nat{1}}, Den: api.Nat{half}}},
		{-2, least, api.Rat{Num: api.Int{Mag: api.Nat{1}}, Den: api.Nat{1 << 62}}},
		{least, greatest, api.Rat{Num: api.Int{Neg: true, Mag: api.Nat{half}}, Den: api.Nat{half - 1}}},
		{greatest, least, api.Rat{Num: api.Int{Neg: true, Mag: api.Nat{half - 1}}, Den: api.Nat{half}}},
	} {
		equal(t, "Over", got(Over(c.n, c.d)), c.want)
	}
	for _, n := range []int64{0, 1, -1, 5, least, greatest} {
		a, e := Over(n, 0)
		nothing(t, "Over", a, e, api.ErrZero)
	}
}

// P6.1: halves of halves, up to the most that is shifted.
func TestP6_1_Half(t *testing.T) {
	got := fine(t)
	for _, n := range []int{0, 1, 2, 3, 62, 63, 64, 65, 127, 128, 1000, api.MaxShift - 1, api.MaxShift} {
		den := make(api.Nat, n/64+1)
		den[n/64] = 1 << (n % 64)
		equal(t, "Half", got(Half(n)), api.Rat{Num: api.Int{Mag: api.Nat{1}}, Den: den})
	}
	for _, n := range []int{-1, -2, -64, math.MinInt, api.MaxShift + 1, 2 * api.MaxShift, 1 << 32, math.MaxInt} {
		a, e := Half(n)
		nothing(t, "Half", a, e, api.ErrArg)
	}
}

// P6.2: the order, whatever the spelling.
func TestP6_2_Cmp(t *testing.T) {
	for n1, d1 := range small {
		for n2, d2 := range small {
			want := cmp.Compare(n1*d2, n2*d1)
			a, b := raw(n1, d1), raw(n2, d2)
			if got := Cmp(a, b); got != want {
				t.Fatalf("Cmp(%d/%d, %d/%d) = %d", n1, d1, n2, d2, got)
			}
			if Same(a, b) != (want == 0) {
				t.Fatalf("Same(%d/%d, %d/%d) = %t", n1, d1, n2, d2, want != 0)
			}
		}
	}
	for i, a := range samples() {
		for j, b := range samples() {
			for _, x := range spellings(a) {
				for _, y := range spellings(b) {
					if got := Cmp(x, y); got != order(a, b) || (got == 0) != (i == j) {
						t.Fatalf("Cmp(%v, %v) = %d", x, y, got)
					}
					if Same(x, y) != (i == j) {
						t.Fatalf("Same(%v, %v) = %t", x, y, i != j)
					}
				}
			}
		}
	}
}

// P6.2: small fractions, lowest terms or not, against the language's own arithmetic.
func TestP6_2_Small(t *testing.T) {
	got := fine(t)
	for n1, d1 := range small {
		a := raw(n1, d1)
		equal(t, "Neg", Neg(a), plain(-n1, d1))
		for n2, d2 := range small {
			b := raw(n2, d2)
			equal(t, "Add", Add(a, b), plain(n1*d2+n2*d1, d1*d2))
			equal(t, "Sub", Sub(a, b), plain(n1*d2-n2*d1, d1*d2))
			equal(t, "Mul", Mul(a, b), plain(n1*n2, d1*d2))
			if n2 == 0 {
				c, e := Quo(a, b)
				nothing(t, "Quo", c, e, api.ErrZero)
				continue
			}
			equal(t, "Quo", got(Quo(a, b)), plain(n1*d2, d1*n2))
		}
	}
}

// P6.2: sums, differences, products and quotients, against their images.
func TestP6_2_Images(t *testing.T) {
	for _, a := range samples() {
		images(t, "Neg", Neg(a), func(p field) uint64 { return p.minus(p.of(a)) })
		for _, b := range samples() {
			images(t, "Add", Add(a, b), func(p field) uint64 { return p.plus(p.of(a), p.of(b)) })
			images(t, "Sub", Sub(a, b), func(p field) uint64 { return p.plus(p.of(a), p.minus(p.of(b))) })
			images(t, "Mul", Mul(a, b), func(p field) uint64 { return p.times(p.of(a), p.of(b)) })
			c, e := Quo(a, b)
			if len(b.Num.Mag) == 0 {
				nothing(t, "Quo", c, e, api.ErrZero)
				continue
			}
			images(t, "Quo", fine(t)(c, e), func(p field) uint64 { return p.times(p.of(a), p.inverse(p.of(b))) })
		}
	}
}

// P6.2: the examples, and a divisor whose value is 0, however it is spelt.
func TestP6_2_Examples(t *testing.T) {
	got := fine(t)
	equal(t, "1/2 + 1/3", Add(plain(1, 2), plain(1, 3)), plain(5, 6))
	equal(t, "1/6 + 1/3", Add(plain(1, 6), plain(1, 3)), plain(1, 2))
	equal(t, "1/2 - 1/2", Sub(plain(1, 2), plain(1, 2)), plain(0, 1))
	equal(t, "-2/3 * 3/2", Mul(plain(-2, 3), plain(3, 2)), plain(-1, 1))
	equal(t, "1/2 : -3/4", got(Quo(plain(1, 2), plain(-3, 4))), plain(-2, 3))
	equal(t, "0 : -3/4", got(Quo(plain(0, 1), plain(-3, 4))), plain(0, 1))
	equal(t, "-0", Neg(plain(0, 1)), plain(0, 1))
	for _, a := range append(samples(), zeros()...) {
		for _, b := range zeros() {
			c, e := Quo(a, b)
			nothing(t, "Quo", c, e, api.ErrZero)
		}
	}
}

// P6.2: the sum of none, of one and of many.
func TestP6_2_Sum(t *testing.T) {
	equal(t, "Sum", Sum(), plain(0, 1))
	equal(t, "Sum", Sum([]api.Rat{}...), plain(0, 1))
	for _, a := range samples() {
		for _, b := range spellings(a) {
			equal(t, "Sum", Sum(b), a)
		}
	}
	equal(t, "Sum", Sum(plain(3, 4), plain(3, 4), plain(-5, 6), plain(-5, 6)), plain(-1, 6))
	equal(t, "Sum", Sum(plain(1, 2), plain(1, 3), plain(1, 6)), plain(1, 1))
	equal(t, "Sum", Sum(raw(2, 4), raw(2, 6), raw(0, 9), raw(2, 12)), plain(1, 1))
	all := samples()
	equal(t, "Sum", Sum(all...), plain(0, 1)) // each has its counterpart
	for n := range all {
		part := all[:n]
		images(t, "Sum", Sum(part...), func(p field) uint64 {
			sum := uint64(0)
			for _, a := range part {
				sum = p.plus(sum, p.of(a))
			}
			return sum
		})
		backward := slices.Clone(part)
		slices.Reverse(backward)
		equal(t, "Sum", Sum(backward...), Sum(part...))
	}
}

// P6.2: long sums whose results are known.
func TestP6_2_LongSums(t *testing.T) {
	const n = 1500
	var steps, alike, halves []api.Rat
	for k := int64(1); k <= n; k++ {
		steps = append(steps, plain(1, k*(k+1)))
		alike = append(alike, plain(k, n))
		a, _ := Half(int(k))
		halves = append(halves, a)
	}
	equal(t, "the sum of 1/(k*(k+1))", Sum(steps...), plain(n, n+1))
	equal(t, "the sum of k/n", Sum(alike...), plain(n+1, 2))
	equal(t, "the sum of halves", Add(Sum(halves...), halves[n-1]), plain(1, 1))
	equal(t, "the sum of halves", Sum(halves...), Sub(plain(1, 1), halves[n-1]))
}

// P6.2: powers: by products, and the errors of quo.Pow, for the parts of the value.
func TestP6_2_Pow(t *testing.T) {
	got := fine(t)
	for _, a := range append(samples(), zeros()...) {
		product := plain(1, 1)
		for n := range 7 {
			for _, b := range spellings(Neg(Neg(a))) {
				equal(t, "Pow", got(Pow(b, n)), product)
			}
			product = Mul(product, a)
		}
	}
	equal(t, "Pow", got(Pow(plain(-1, 2), 3)), plain(-1, 8))
	equal(t, "Pow", got(Pow(plain(-1, 2), 4)), plain(1, 16))
	equal(t, "Pow", got(Pow(plain(-5, 6), 3)), plain(-125, 216))
	equal(t, "Pow", got(Pow(plain(0, 1), 0)), plain(1, 1))
	equal(t, "Pow", got(Pow(api.Rat{}, 0)), plain(1, 1))
	equal(t, "Pow", got(Pow(plain(0, 1), 9)), plain(0, 1))
	equal(t, "Pow", got(Pow(plain(1, 1), api.MaxPow)), plain(1, 1))
	equal(t, "Pow", got(Pow(plain(-1, 1), api.MaxPow)), plain(1, 1))
	equal(t, "Pow", got(Pow(plain(-1, 1), api.MaxPow-1)), plain(-1, 1))
	equal(t, "Pow", got(Pow(plain(0, 1), api.MaxPow)), plain(0, 1))
}

// P6.2: powers that are refused, and the last ones that are not.
func TestP6_2_PowRefused(t *testing.T) {
	for _, c := range []struct {
		a    api.Rat
		n    int
		want api.Errno
	}{
		{plain(3, 1), -1, api.ErrArg},
		{plain(1, 3), -1, api.ErrArg},
		{plain(0, 1), -1, api.ErrArg},
		{api.Rat{}, -1, api.ErrArg},
		{plain(-2, 3), math.MinInt, api.ErrArg},
		{plain(3, 1), api.MaxPow/2 + 1, api.ErrLong},
		{plain(1, 3), api.MaxPow/2 + 1, api.ErrLong},
		{plain(-1, 3), api.MaxPow/2 + 1, api.ErrLong},
		{plain(2, 7), api.MaxPow/3 + 1, api.ErrLong},
		{plain(7, 2), api.MaxPow/3 + 1, api.ErrLong},
		{plain(1, 1), api.MaxPow + 1, api.ErrLong},
		{plain(1, 1), math.MaxInt, api.ErrLong},
		{plain(0, 1), api.MaxPow + 1, api.ErrLong}, // for the denominator, which is 1
		{api.Rat{}, api.MaxPow + 1, api.ErrLong},
		{plain(0, 1), math.MaxInt, api.ErrLong},
	} {
		a, e := Pow(c.a, c.n)
		nothing(t, "Pow", a, e, c.want)
	}
	for _, c := range []struct {
		a api.Rat
		n int
	}{
		{raw(8, 4), api.MaxPow / 2}, // parts of 4 and 3 bits, but those of the value have 2 and 1
		{raw(4, 8), api.MaxPow / 2},
	} {
		a := fine(t)(Pow(c.a, c.n))
		num, _ := quo.Pow(api.Nat{2}, c.n)
		if c.a.Num.Mag[0] == 4 {
			equal(t, "Pow", a, api.Rat{Num: api.Int{Mag: api.Nat{1}}, Den: num})
		} else {
			equal(t, "Pow", a, api.Rat{Num: api.Int{Mag: num}, Den: api.Nat{1}})
		}
	}
}

// texts are fractions and what they are shown as.
func texts() map[string]api.Rat {
	return map[string]api.Rat{
		"0":                      plain(0, 1),
		"1":                      plain(1, 1),
		"-1":                     plain(-1, 1),
		"3":                      plain(3, 1),
		"-7":                     plain(-7, 1),
		"1/2":                    plain(1, 2),
		"-1/2":                   plain(-1, 2),
		"3/4":                    plain(3, 4),
		"10/3":                   plain(10, 3),
		"-100/7":                 plain(-100, 7),
		"9/10":                   plain(9, 10),
		"-101/10":                plain(-101, 10),
		"18446744073709551616":   {Num: api.Int{Mag: api.Nat{0, 1}}, Den: api.Nat{1}},
		"1/18446744073709551616": {Num: api.Int{Mag: api.Nat{1}}, Den: api.Nat{0, 1}},
		"-18446744073709551615/18446744073709551616": {Num: api.Int{Neg: true, Mag: api.Nat{most}}, Den: api.Nat{0, 1}},
		"9223372036854775808/18446744073709551615":   {Num: api.Int{Mag: api.Nat{half}}, Den: api.Nat{most}},
	}
}

// plainText is what n over d is shown as, by the language's own arithmetic.
func plainText(n, d int64) string {
	a, text := plain(n, d), "0"
	if n != 0 {
		text = strconv.FormatUint(a.Num.Mag[0], 10)
	}
	if a.Num.Neg {
		text = "-" + text
	}
	if a.Den[0] != 1 {
		text += "/" + strconv.FormatUint(a.Den[0], 10)
	}
	return text
}

// P6.3: texts of fractions, and back; what is shown is the value.
func TestP6_3_Texts(t *testing.T) {
	got := fine(t)
	for s, a := range texts() {
		equal(t, s, got(Read(s)), a)
		for _, b := range spellings(a) {
			if shown := Show(b); shown != s {
				t.Errorf("Show(%v) = %q, want %q", b, shown, s)
			}
		}
	}
	for n, d := range small {
		text := plainText(n, d)
		if shown := Show(raw(n, d)); shown != text {
			t.Errorf("Show(%d/%d) = %q", n, d, shown)
		}
		equal(t, text, got(Read(text)), plain(n, d))
	}
}

// P6.3: texts that are not shown so: each error ahead of the next one, and nothing beside it.
func TestP6_3_Refused(t *testing.T) {
	long := strings.Repeat("1", dec.MaxDigits+1)
	for _, c := range []struct {
		s    string
		want api.Errno
	}{
		{"", api.ErrShort},
		{"-", api.ErrShort},
		{"/", api.ErrShort},
		{"-/", api.ErrShort},
		{"/2", api.ErrShort},
		{"-/2", api.ErrShort},
		{"//", api.ErrShort},
		{"1/", api.ErrShort},
		{"-1/", api.ErrShort},
		{"0/", api.ErrShort},
		{"1a/", api.ErrForm},
		{"-0/", api.ErrForm},
		{"/1a", api.ErrShort},
		{"-0", api.ErrForm},
		{"007", api.ErrForm},
		{"+1", api.ErrForm},
		{" 1", api.ErrForm},
		{"1a", api.ErrForm},
		{"-0/5", api.ErrForm},
		{"+1/2", api.ErrForm},
		{"01/2", api.ErrForm},
		{" 1/2", api.ErrForm},
		{"1 /2", api.ErrForm},
		{"1/ 2", api.ErrForm},
		{"1/2 ", api.ErrForm},
		{"1/2\n", api.ErrForm},
		{"1/-2", api.ErrForm},
		{"1/+2", api.ErrForm},
		{"1/-", api.ErrForm},
		{"1/02", api.ErrForm},
		{"1/00", api.ErrForm},
		{"1/2a", api.ErrForm},
		{"1/2/3", api.ErrForm},
		{"1/2/", api.ErrForm},
		{"1//2", api.ErrForm},
		{"1//", api.ErrForm},
		{"1/2.0", api.ErrForm},
		{"1/0", api.ErrForm},
		{"0/0", api.ErrForm},
		{"-1/0", api.ErrForm},
		{"1/1", api.ErrForm},
		{"0/1", api.ErrForm},
		{"-5/1", api.ErrForm},
		{"0/2", api.ErrForm},
		{"0/7", api.ErrForm},
		{"2/4", api.ErrForm},
		{"-2/4", api.ErrForm},
		{"6/8", api.ErrForm},
		{"3/3", api.ErrForm},
		{"9/3", api.ErrForm},
		{"18446744073709551616/6", api.ErrForm},
		{"6/18446744073709551616", api.ErrForm},
		{long, api.ErrLong},
		{"-" + long, api.ErrLong},
		{long + "/", api.ErrLong},
		{long + "/x", api.ErrLong},
		{long + "/1", api.ErrLong},
		{"-" + long + "/0", api.ErrLong},
		{"1/" + long, api.ErrLong},
		{"-1/" + long, api.ErrLong},
		{"0/" + long, api.ErrLong},
		{long[1:] + "/" + long, api.ErrLong},
		{"x/" + long, api.ErrForm},
		{"/" + long, api.ErrShort},
		{"1/0" + long, api.ErrForm},
		{"1/" + long + "x", api.ErrForm},
		{long[1:] + "/" + long[1:], api.ErrForm},
	} {
		a, e := Read(c.s)
		if e != c.want {
			t.Errorf("Read(%.30q): error %d, want %d", c.s, e, c.want)
		}
		equal(t, "beside the error", a, api.Rat{})
	}
}

// P6.3: each part may have as many digits as are read at most.
func TestP6_3_MaxDigits(t *testing.T) {
	ones, nines := strings.Repeat("1", dec.MaxDigits), strings.Repeat("9", dec.MaxDigits)
	for _, s := range []string{
		nines, "-" + nines, "1/" + nines, "-1/" + nines, nines + "/2", "-" + nines + "/2", "-" + nines[1:] + "8/" + nines,
		"1" + nines[1:] + "/2" + strings.Repeat("0", dec.MaxDigits-1), ones + "/" + ones[1:],
	} {
		if shown := Show(fine(t)(Read(s))); shown != s {
			t.Errorf("Show(Read(%.30q)) = %.30q", s, shown)
		}
	}
}

// P6.3: every byte in every place of a short text: exactly that is read which is shown of some fraction.
func TestP6_3_EveryByte(t *testing.T) {
	shown := map[string]bool{}
	for n := int64(-999); n <= 999; n++ {
		for d := int64(1); d <= 99; d++ {
			shown[plainText(n, d)] = true
		}
	}
	for c := range 256 {
		b := string([]byte{byte(c)})
		for _, s := range []string{b, b + "5", b + "/5", "5" + b, "5" + b + "4", "5" + b + "/4", "5/" + b, "5/" + b + "4", "5/4" + b, "-5" + b + "4"} {
			_, e := Read(s)
			if (e == api.OK) != shown[s] {
				t.Errorf("Read(%q): error %d", s, e)
			}
		}
	}
}

// P6.4: the parts of a result have no common divisor but 1; cross-multiplied with num and den they are equal.
func TestP6_4_LowestTerms(t *testing.T) {
	for _, n := range nats() {
		for _, den := range nats()[1:] {
			for _, neg := range []bool{false, true} {
				num := api.Int{Neg: neg, Mag: n}
				a := fine(t)(Make(num, den))
				valid(t, "Make", a)
				if !May(a) {
					t.Fatalf("May(%v) = false", a)
				}
				left, right := whole.Mul(a.Num, api.Int{Mag: den}), whole.Mul(num, api.Int{Mag: a.Den})
				if whole.Cmp(left, right) != 0 {
					t.Fatalf("Make(%v, %v) = %v", num, den, a)
				}
			}
		}
	}
}

// P6.4: whatever both parts are multiplied by is divided out again.
func TestP6_4_CommonFactors(t *testing.T) {
	for _, want := range samples() {
		for _, c := range nats()[1:] {
			num := api.Int{Neg: want.Num.Neg, Mag: nat.Mul(want.Num.Mag, c)}
			equal(t, "Make", fine(t)(Make(num, nat.Mul(want.Den, c))), want)
		}
	}
}

// P6.5: two fractions: what commutes, what is neutral, what undoes what.
func TestP6_5_Two(t *testing.T) {
	got := fine(t)
	for _, a := range samples() {
		equal(t, "a + 0", Add(a, plain(0, 1)), a)
		equal(t, "a * 1", Mul(a, plain(1, 1)), a)
		equal(t, "a * 0", Mul(a, plain(0, 1)), plain(0, 1))
		equal(t, "a + -a", Add(a, Neg(a)), plain(0, 1))
		equal(t, "a - a", Sub(a, a), plain(0, 1))
		equal(t, "--a", Neg(Neg(a)), a)
		for _, b := range samples() {
			equal(t, "b + a", Add(b, a), Add(a, b))
			equal(t, "b * a", Mul(b, a), Mul(a, b))
			equal(t, "a - b", Sub(a, b), Add(a, Neg(b)))
			equal(t, "a - b + b", Add(Sub(a, b), b), a)
			if len(b.Num.Mag) > 0 {
				equal(t, "a : b * b", Mul(got(Quo(a, b)), b), a)
				equal(t, "a * b : b", got(Quo(Mul(a, b), b)), a)
			}
		}
	}
}

// P6.5: three fractions: grouping, and a product of a sum; the sum of three is that of two and one.
func TestP6_5_Three(t *testing.T) {
	for _, a := range few() {
		for _, b := range few() {
			for _, c := range few() {
				equal(t, "sums", Add(Add(a, b), c), Add(a, Add(b, c)))
				equal(t, "products", Mul(Mul(a, b), c), Mul(a, Mul(b, c)))
				equal(t, "both", Mul(a, Add(b, c)), Add(Mul(a, b), Mul(a, c)))
				equal(t, "Sum", Sum(a, b, c), Add(Add(a, b), c))
			}
		}
	}
}

// P6.6: exactly one of less, equal, greater holds, as the sign of the difference tells.
func TestP6_6_Trichotomy(t *testing.T) {
	for i, a := range samples() {
		for j, b := range samples() {
			got := Cmp(a, b)
			if got != whole.Sign(Sub(a, b).Num) || got != -Cmp(b, a) || (got == 0) != (i == j) {
				t.Fatalf("Cmp(%v, %v) = %d", a, b, got)
			}
		}
	}
}

// P6.6: a number added to both keeps the order; a factor keeps it, reverses it or makes both equal, by its sign.
func TestP6_6_Order(t *testing.T) {
	for _, a := range few() {
		for _, b := range few() {
			for _, c := range samples() {
				if Cmp(Add(a, c), Add(b, c)) != Cmp(a, b) {
					t.Fatalf("%v and %v, with %v added", a, b, c)
				}
				if Cmp(Mul(a, c), Mul(b, c)) != Cmp(a, b)*whole.Sign(c.Num) {
					t.Fatalf("%v and %v, times %v", a, b, c)
				}
				if Cmp(a, b) <= 0 && Cmp(b, c) <= 0 && Cmp(a, c) > 0 {
					t.Fatalf("%v, %v and %v are not in order", a, b, c)
				}
			}
		}
	}
}

// P6.7: Read of Show is the fraction, Show of Read the text; no two fractions have the same one.
func TestP6_7_AndBack(t *testing.T) {
	got := fine(t)
	seen := map[string]bool{}
	for _, a := range samples() {
		s := Show(a)
		equal(t, s, got(Read(s)), a)
		if Show(got(Read(s))) != s || seen[s] {
			t.Errorf("%q is not the text of %v alone", s, a)
		}
		seen[s] = true
	}
	x := uint64(362436069)
	for n := range 100 {
		num := api.Nat{scramble(&x) | 1}
		for range n % 5 {
			num = append(num, scramble(&x)|1)
		}
		den, _ := quo.Pow(api.Nat{2}, n)
		a := api.Rat{Num: api.Int{Neg: n%2 == 1, Mag: num}, Den: den}
		equal(t, "Read of Show", got(Read(Show(a))), a)
	}
	last, _ := Half(api.MaxShift)
	equal(t, "Read of Show", got(Read(Show(last))), last) // 19729 digits
}

// P6.8: twice a half, products and powers of halves.
func TestP6_8_Halves(t *testing.T) {
	got := fine(t)
	exponents := []int{0, 1, 2, 3, 31, 63, 64, 65, 128, 1000, api.MaxShift / 2}
	for _, n := range append(exponents, api.MaxShift) {
		h := got(Half(n))
		if n > 0 {
			equal(t, "twice", Mul(h, plain(2, 1)), got(Half(n-1)))
			equal(t, "twice", Add(h, h), got(Half(n-1)))
		}
		equal(t, "power", got(Pow(plain(1, 2), n)), h)
	}
	for _, n := range exponents {
		for _, m := range exponents {
			equal(t, "product", Mul(got(Half(n)), got(Half(m))), got(Half(n+m)))
		}
	}
}

// answers are what all calls with these two fractions answer, in text; results are the fractions among the answers.
func answers(a, b api.Rat) (text string, results []api.Rat) {
	q, e1 := Quo(a, b)
	p, e2 := Pow(a, 3)
	again, e3 := Read(Show(a))
	results = []api.Rat{Neg(a), Add(a, b), Sub(a, b), Mul(a, b), q, p, again, Sum(a), Sum(a, b, a, b)}
	for _, c := range results {
		text += strconv.FormatBool(c.Num.Neg)
		for _, part := range []api.Nat{c.Num.Mag, c.Den} {
			for _, limb := range part {
				text += " " + strconv.FormatUint(limb, 16)
			}
			text += ";"
		}
	}
	for _, n := range []int{int(e1), int(e2), int(e3), Cmp(a, b)} {
		text += strconv.Itoa(n) + ";"
	}
	return text + strconv.FormatBool(Same(a, b)) + ";" + Show(a), results
}

// P6.1, P6.2, P6.3: all calls return the same for different spellings of one fraction, and what they return is valid.
func TestP6_2_Spellings(t *testing.T) {
	for _, a := range few() {
		for _, b := range few() {
			want, _ := answers(a, b)
			for _, x := range spellings(a) {
				for _, y := range spellings(b) {
					got, results := answers(x, y)
					if got != want {
						t.Fatalf("%v and %v: %s, want %s", x, y, got, want)
					}
					for i, c := range results {
						if i != 4 || !nat.Zero(c.Den) { // the quotient by 0 is refused
							valid(t, "a result", c)
						}
					}
				}
			}
		}
	}
}

// roomy is a with room behind its limbs, to see what is written there.
func roomy(a api.Rat) (b api.Rat, memory []api.Nat) {
	num, den := append(slices.Clone(a.Num.Mag), 5, 6, 7), append(slices.Clone(a.Den), 8, 9, 10)
	b = api.Rat{Num: api.Int{Neg: a.Num.Neg, Mag: num[:len(a.Num.Mag)]}, Den: den[:len(a.Den)]}
	return b, []api.Nat{num, den}
}

func cloned(l []api.Nat) []api.Nat {
	var copies []api.Nat
	for _, a := range l {
		copies = append(copies, slices.Clone(a))
	}
	return copies
}

// overwrite writes over the memory of each list of limbs, up to its end, and asks whether another one changes.
func overwrite(t *testing.T, lists []api.Nat) {
	t.Helper()
	for i, a := range lists {
		others := cloned(lists[i+1:])
		memory := a[:cap(a)]
		for j := range memory {
			memory[j] = 77
		}
		for j, other := range others {
			if !slices.Equal(lists[i+1+j], other) {
				t.Fatalf("list %d is overwritten with list %d", i+1+j, i)
			}
		}
	}
}

// P6.9: results may be overwritten: no argument, no other result, no other part and no later result changes.
func TestP6_9_Overwritten(t *testing.T) {
	for _, x := range append(few(), raw(4, 6), raw(0, 6), api.Rat{}) {
		for _, y := range append(few(), raw(4, 6), raw(0, 6), api.Rat{}) {
			a, memoryA := roomy(x)
			b, memoryB := roomy(y)
			keptA, keptB := cloned(memoryA), cloned(memoryB)
			want, results := answers(a, b)
			made, _ := Make(a.Num, b.Den)
			var lists []api.Nat
			for _, c := range append(results, made) {
				lists = append(lists, c.Num.Mag, c.Den)
			}
			overwrite(t, lists)
			for i := range 2 {
				if !slices.Equal(memoryA[i], keptA[i]) || !slices.Equal(memoryB[i], keptB[i]) {
					t.Fatalf("%v and %v: the arguments are changed", x, y)
				}
			}
			if got, _ := answers(a, b); got != want {
				t.Fatalf("%v and %v: %s, want %s", x, y, got, want)
			}
		}
	}
}

// P6.9: nothing is kept of what constructors and Read have returned, nor of a list of fractions that was summed.
func TestP6_9_Kept(t *testing.T) {
	got := fine(t)
	makers := []func() api.Rat{
		func() api.Rat { return Of(0) },
		func() api.Rat { return Of(-3) },
		func() api.Rat { return got(Over(4, -6)) },
		func() api.Rat { return got(Half(70)) },
		func() api.Rat { return got(Read("0")) },
		func() api.Rat { return got(Read("-3/4")) },
		func() api.Rat { return got(Read("7")) },
		func() api.Rat { return Sum() },
		func() api.Rat { return got(Pow(Of(5), 0)) },
		func() api.Rat { return Neg(api.Rat{}) },
	}
	for i, maker := range makers {
		first := maker()
		want := api.Rat{Num: api.Int{Neg: first.Num.Neg, Mag: slices.Clone(first.Num.Mag)}, Den: slices.Clone(first.Den)}
		overwrite(t, []api.Nat{first.Num.Mag, first.Den})
		equal(t, strconv.Itoa(i), maker(), want)
	}
	list := []api.Rat{raw(2, 4), raw(0, 3), {}, raw(-6, 9)}
	equal(t, "Sum", Sum(list...), plain(-1, 6))
	for i, want := range []api.Rat{raw(2, 4), raw(0, 3), {}, raw(-6, 9)} {
		equal(t, "the list", list[i], want)
	}
}
