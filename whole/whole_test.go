package whole

import (
	"cmp"
	"math"
	"math/bits"
	"slices"
	"strconv"
	"strings"
	"testing"

	"tombola/api"
	"tombola/dec"
)

const (
	most = math.MaxUint64
	half = 1 << 63
)

// scramble makes words without pattern, always the same ones.
func scramble(x *uint64) uint64 {
	*x ^= *x << 13
	*x ^= *x >> 7
	*x ^= *x << 17
	return *x
}

// mags are absolute values at the edges of words and limbs, and some without pattern, in increasing order up to where
// those begin; all but the first are above 0, and no two are equal.
func mags() []api.Nat {
	l := []api.Nat{
		nil, {1}, {2}, {3}, {5}, {10}, {17}, {255}, {1 << 32}, {half - 1}, {half}, {half + 1}, {most - 1}, {most},
		{0, 1}, {1, 1}, {most, half}, {0, most}, {most, most}, {0, 0, 1}, {1, 0, 1}, {most, most, most},
	}
	x := uint64(88172645463325252)
	for _, n := range []int{1, 2, 3, 4} {
		a := make(api.Nat, n)
		for i := range a {
			a[i] = scramble(&x)
		}
		l = append(l, a)
	}
	return l
}

// samples are the integers with these absolute values, of both signs.
func samples() []api.Int {
	var l []api.Int
	for i, a := range mags() {
		l = append(l, api.Int{Mag: a})
		if i > 0 {
			l = append(l, api.Int{Neg: true, Mag: a})
		}
	}
	return l
}

// few are enough where three numbers are combined.
func few() []api.Int {
	var l []api.Int
	for _, a := range []api.Nat{{1}, {2}, {7}, {most}, {0, 1}, {5, 0, half}, {0x9e3779b97f4a7c15, 0xbf58476d1ce4e5b9}} {
		l = append(l, api.Int{Mag: a}, api.Int{Neg: true, Mag: a})
	}
	return append(l, api.Int{})
}

// zeros are spellings of 0.
func zeros() []api.Int {
	return []api.Int{
		{}, {Mag: api.Nat{}}, {Mag: api.Nat{0}}, {Mag: api.Nat{0, 0, 0}},
		{Neg: true}, {Neg: true, Mag: api.Nat{}}, {Neg: true, Mag: api.Nat{0}}, {Neg: true, Mag: api.Nat{0, 0, 0}},
	}
}

// spellings are x in the form that results have and in others.
func spellings(x api.Int) []api.Int {
	if len(x.Mag) == 0 {
		return zeros()
	}
	return []api.Int{
		x,
		{Neg: x.Neg, Mag: append(slices.Clone(x.Mag), 0)},
		{Neg: x.Neg, Mag: append(slices.Clone(x.Mag), 0, 0, 0)},
	}
}

func equal(t *testing.T, what string, got, want api.Int) {
	t.Helper()
	if got.Neg != want.Neg || !slices.Equal(got.Mag, want.Mag) {
		t.Fatalf("%s: %v, want %v", what, got, want)
	}
}

// div and read are for arguments that are not refused.

func div(t *testing.T, x, y api.Int) (q, r api.Int) {
	t.Helper()
	q, r, e := Div(x, y)
	if e != api.OK {
		t.Fatalf("Div(%v, %v): error %d", x, y, e)
	}
	return q, r
}

func read(t *testing.T, s string) api.Int {
	t.Helper()
	x, e := Read(s)
	if e != api.OK {
		t.Fatalf("Read(%.60q): error %d", s, e)
	}
	return x
}

// A ring of these tests holds an integer in two's complement, the lowest limb first: its arithmetic asks for no sign,
// and has room for any product of samples.
type ring [12]uint64

func ringOf(x api.Int) ring {
	var a ring
	copy(a[:], x.Mag)
	if x.Neg {
		return ringNeg(a)
	}
	return a
}

func intOf(a ring) api.Int {
	x := api.Int{Neg: a[len(a)-1] >= half}
	if x.Neg {
		a = ringNeg(a)
	}
	x.Mag = a[:]
	for len(x.Mag) > 0 && x.Mag[len(x.Mag)-1] == 0 {
		x.Mag = x.Mag[:len(x.Mag)-1]
	}
	return x
}

func ringNeg(a ring) ring {
	for i := range a {
		a[i] = ^a[i]
	}
	return ringAdd(a, ring{1})
}

func ringAdd(a, b ring) ring {
	carry := uint64(0)
	for i := range a {
		a[i], carry = bits.Add64(a[i], b[i], carry)
	}
	return a
}

func ringMul(a, b ring) ring {
	var product ring
	for i := len(a)*64 - 1; i >= 0; i-- {
		product = ringAdd(product, product)
		if b[i/64]>>(i%64)&1 == 1 {
			product = ringAdd(product, a)
		}
	}
	return product
}

// P5.1: Make gives the absolute value its sign, whatever limbs it has; 0 has none.
func TestP5_1_Make(t *testing.T) {
	for _, c := range []struct {
		neg  bool
		mag  api.Nat
		want api.Int
	}{
		{false, nil, api.Int{}},
		{true, nil, api.Int{}},
		{true, api.Nat{0}, api.Int{}},
		{true, api.Nat{0, 0}, api.Int{}},
		{false, api.Nat{0, 0}, api.Int{}},
		{false, api.Nat{5}, api.Int{Mag: api.Nat{5}}},
		{true, api.Nat{5}, api.Int{Neg: true, Mag: api.Nat{5}}},
		{true, api.Nat{5, 0, 0}, api.Int{Neg: true, Mag: api.Nat{5}}},
		{false, api.Nat{0, 5, 0}, api.Int{Mag: api.Nat{0, 5}}},
	} {
		equal(t, "Make", Make(c.neg, c.mag), c.want)
	}
	for _, want := range samples() {
		for _, x := range spellings(want) {
			equal(t, "Make", Make(x.Neg, x.Mag), want)
		}
	}
}

// P5.1: May holds for the form that results have, and for no other.
func TestP5_1_May(t *testing.T) {
	for _, x := range append(samples(), api.Int{Mag: api.Nat{}}, api.Int{Mag: api.Nat{0, 1}}, api.Int{Neg: true, Mag: api.Nat{0, 1}}) {
		if !May(x) {
			t.Errorf("May(%v) = false", x)
		}
		for _, y := range spellings(x)[1:] {
			if want := len(y.Mag) == 0 && !y.Neg; May(y) != want {
				t.Errorf("May(%v) = %t", y, May(y))
			}
		}
	}
	for _, x := range []api.Int{{Neg: true}, {Neg: true, Mag: api.Nat{}}, {Mag: api.Nat{0}}, {Neg: true, Mag: api.Nat{0}}, {Mag: api.Nat{1, 0}}} {
		if May(x) {
			t.Errorf("May(%v) = true", x)
		}
	}
}

// P5.1: an int64 as an integer.
func TestP5_1_Of(t *testing.T) {
	for _, c := range []struct {
		n    int64
		want api.Int
	}{
		{0, api.Int{}},
		{1, api.Int{Mag: api.Nat{1}}},
		{-1, api.Int{Neg: true, Mag: api.Nat{1}}},
		{17, api.Int{Mag: api.Nat{17}}},
		{-17, api.Int{Neg: true, Mag: api.Nat{17}}},
		{math.MaxInt64, api.Int{Mag: api.Nat{half - 1}}},
		{-math.MaxInt64, api.Int{Neg: true, Mag: api.Nat{half - 1}}},
		{math.MinInt64, api.Int{Neg: true, Mag: api.Nat{half}}},
	} {
		equal(t, "Of", Of(c.n), c.want)
	}
}

// P5.1: an integer as an int64, if it fits, and else 0 and false.
func TestP5_1_Small(t *testing.T) {
	for _, c := range []struct {
		neg  bool
		mag  api.Nat
		want int64
		ok   bool
	}{
		{false, api.Nat{5}, 5, true},
		{true, api.Nat{5}, -5, true},
		{false, api.Nat{half - 1}, math.MaxInt64, true},
		{true, api.Nat{half - 1}, -math.MaxInt64, true},
		{false, api.Nat{half}, 0, false},
		{true, api.Nat{half}, math.MinInt64, true},
		{false, api.Nat{half + 1}, 0, false},
		{true, api.Nat{half + 1}, 0, false},
		{false, api.Nat{most}, 0, false},
		{true, api.Nat{most}, 0, false},
		{false, api.Nat{0, 1}, 0, false},
		{true, api.Nat{0, 1}, 0, false},
		{false, api.Nat{5, 1}, 0, false},
		{true, api.Nat{half, 0, 1}, 0, false},
	} {
		for _, x := range spellings(api.Int{Neg: c.neg, Mag: c.mag}) {
			if n, ok := Small(x); n != c.want || ok != c.ok {
				t.Errorf("Small(%v) = %d, %t", x, n, ok)
			}
		}
	}
	for _, x := range zeros() {
		if n, ok := Small(x); n != 0 || !ok {
			t.Errorf("Small(%v) = %d, %t", x, n, ok)
		}
	}
}

// P5.1: the sign, and none for a negative 0.
func TestP5_1_Sign(t *testing.T) {
	for _, x := range zeros() {
		if n := Sign(x); n != 0 {
			t.Errorf("Sign(%v) = %d", x, n)
		}
	}
	for _, a := range mags()[1:] {
		for _, x := range spellings(api.Int{Mag: a}) {
			if n := Sign(x); n != 1 {
				t.Errorf("Sign(%v) = %d", x, n)
			}
		}
		for _, x := range spellings(api.Int{Neg: true, Mag: a}) {
			if n := Sign(x); n != -1 {
				t.Errorf("Sign(%v) = %d", x, n)
			}
		}
	}
}

// P5.1: comparisons: those of int64, and the places in a list whose order is known.
func TestP5_1_Cmp(t *testing.T) {
	small := []int64{math.MinInt64, -math.MaxInt64, -1 << 40, -17, -3, -2, -1, 0, 1, 2, 3, 17, 1 << 40, math.MaxInt64 - 1, math.MaxInt64}
	for _, m := range small {
		for _, n := range small {
			if got := Cmp(Of(m), Of(n)); got != cmp.Compare(m, n) {
				t.Errorf("Cmp(%d, %d) = %d", m, n, got)
			}
		}
	}
	up := mags()[:22]
	var ordered []api.Int
	for _, a := range slices.Backward(up[1:]) {
		ordered = append(ordered, api.Int{Neg: true, Mag: a})
	}
	for _, a := range up {
		ordered = append(ordered, api.Int{Mag: a})
	}
	for i, x := range ordered {
		for j, y := range ordered {
			if got := Cmp(x, y); got != cmp.Compare(i, j) {
				t.Errorf("Cmp(%v, %v) = %d", x, y, got)
			}
		}
	}
}

// P5.2: the chapter's examples.
func TestP5_2_Examples(t *testing.T) {
	equal(t, "3 and -5", Add(Of(3), Of(-5)), Of(-2))
	equal(t, "-3 times -5", Mul(Of(-3), Of(-5)), Of(15))
	for _, c := range [][4]int64{{17, 5, 3, 2}, {17, -5, -3, 2}, {-17, 5, -4, 3}, {-17, -5, 4, 3}} {
		q, r := div(t, Of(c[0]), Of(c[1]))
		equal(t, "quotient", q, Of(c[2]))
		equal(t, "remainder", r, Of(c[3]))
	}
}

// P5.2: all of it for small numbers, against the arithmetic of the language.
func TestP5_2_Small(t *testing.T) {
	for x := int64(-25); x <= 25; x++ {
		equal(t, "Neg", Neg(Of(x)), Of(-x))
		for y := int64(-25); y <= 25; y++ {
			equal(t, "Add", Add(Of(x), Of(y)), Of(x+y))
			equal(t, "Sub", Sub(Of(x), Of(y)), Of(x-y))
			equal(t, "Mul", Mul(Of(x), Of(y)), Of(x*y))
			if y == 0 {
				continue
			}
			rest := ((x % y) + max(y, -y)) % y
			q, r := div(t, Of(x), Of(y))
			equal(t, "quotient", q, Of((x-rest)/y))
			equal(t, "remainder", r, Of(rest))
		}
	}
}

// P5.2: the negated number.
func TestP5_2_Neg(t *testing.T) {
	for _, x := range zeros() {
		equal(t, "Neg", Neg(x), api.Int{})
	}
	for _, a := range mags()[1:] {
		equal(t, "Neg", Neg(api.Int{Mag: a}), api.Int{Neg: true, Mag: a})
		equal(t, "Neg", Neg(api.Int{Neg: true, Mag: a}), api.Int{Mag: a})
	}
}

// P5.2: sums, differences and products, against two's complement.
func TestP5_2_Ring(t *testing.T) {
	for _, x := range samples() {
		for _, y := range samples() {
			a, b := ringOf(x), ringOf(y)
			equal(t, "Add", Add(x, y), intOf(ringAdd(a, b)))
			equal(t, "Sub", Sub(x, y), intOf(ringAdd(a, ringNeg(b))))
			equal(t, "Mul", Mul(x, y), intOf(ringMul(a, b)))
		}
	}
}

// P5.2: a carry, or a borrow, through many limbs.
func TestP5_2_Long(t *testing.T) {
	for _, n := range []int{1, 2, 64, 500} {
		ones := make(api.Nat, n)
		for i := range ones {
			ones[i] = most
		}
		power := append(make(api.Nat, n), 1)
		for _, neg := range []bool{false, true} {
			less, whole, one := api.Int{Neg: neg, Mag: ones}, api.Int{Neg: neg, Mag: power}, api.Int{Neg: neg, Mag: api.Nat{1}}
			equal(t, "Add", Add(less, one), whole)
			equal(t, "Add", Add(whole, Neg(one)), less)
			equal(t, "Sub", Sub(whole, one), less)
			equal(t, "Sub", Sub(less, whole), Neg(one))
			q, r := div(t, less, api.Int{Mag: power})
			if neg {
				equal(t, "quotient", q, Of(-1))
				equal(t, "remainder", r, Of(1))
			} else {
				equal(t, "quotient", q, Of(0))
				equal(t, "remainder", r, less)
			}
		}
	}
}

// P5.2: quotients and remainders, against two's complement: the two conditions leave but one pair.
func TestP5_2_Div(t *testing.T) {
	for _, x := range samples() {
		for _, y := range samples() {
			if len(y.Mag) == 0 {
				continue
			}
			q, r := div(t, x, y)
			back := ringAdd(ringMul(ringOf(q), ringOf(y)), ringOf(r))
			less := intOf(ringAdd(ringOf(api.Int{Mag: r.Mag}), ringNeg(ringOf(api.Int{Mag: y.Mag}))))
			if back != ringOf(x) || r.Neg || !less.Neg {
				t.Fatalf("Div(%v, %v) = %v, %v", x, y, q, r)
			}
		}
	}
}

// P5.2: the divisor 0 is refused, however it is spelt, and nothing stands beside the error.
func TestP5_2_DivByZero(t *testing.T) {
	for _, x := range append(samples(), zeros()...) {
		for _, y := range zeros() {
			q, r, e := Div(x, y)
			if e != api.ErrZero {
				t.Fatalf("Div(%v, %v): error %d", x, y, e)
			}
			equal(t, "quotient", q, api.Int{})
			equal(t, "remainder", r, api.Int{})
		}
	}
}

// P5.3: texts of numbers, and back: the chapter's examples, and the edges of limbs.
func TestP5_3_Texts(t *testing.T) {
	for _, c := range []struct {
		x api.Int
		s string
	}{
		{api.Int{}, "0"},
		{Of(1), "1"},
		{Of(-1), "-1"},
		{Of(10), "10"},
		{Of(-10), "-10"},
		{Of(-907), "-907"},
		{Of(math.MaxInt64), "9223372036854775807"},
		{Of(math.MinInt64), "-9223372036854775808"},
		{api.Int{Mag: api.Nat{half}}, "9223372036854775808"},
		{api.Int{Mag: api.Nat{most}}, "18446744073709551615"},
		{api.Int{Neg: true, Mag: api.Nat{most}}, "-18446744073709551615"},
		{api.Int{Mag: api.Nat{0, 1}}, "18446744073709551616"},
		{api.Int{Neg: true, Mag: api.Nat{0, 1}}, "-18446744073709551616"},
		{api.Int{Neg: true, Mag: api.Nat{0, 0, 1}}, "-340282366920938463463374607431768211456"},
	} {
		if s := Show(c.x); s != c.s {
			t.Errorf("Show(%v) = %q", c.x, s)
		}
		equal(t, "Read", read(t, c.s), c.x)
	}
	for _, x := range zeros() {
		if s := Show(x); s != "0" {
			t.Errorf("Show(%v) = %q", x, s)
		}
	}
	for n := int64(-1200); n <= 1200; n++ {
		s := strconv.FormatInt(n, 10)
		if got := Show(Of(n)); got != s {
			t.Errorf("Show(Of(%d)) = %q", n, got)
		}
		equal(t, "Read", read(t, s), Of(n))
	}
}

// P5.3: texts that are no numbers, or too long: each error ahead of the next one, and nothing beside it.
func TestP5_3_Refused(t *testing.T) {
	long := strings.Repeat("1", dec.MaxDigits+1)
	for _, c := range []struct {
		s    string
		want api.Errno
	}{
		{"", api.ErrShort},
		{"-", api.ErrShort},
		{"-0", api.ErrForm},
		{"+1", api.ErrForm},
		{"+0", api.ErrForm},
		{"+", api.ErrForm},
		{"007", api.ErrForm},
		{"-007", api.ErrForm},
		{"00", api.ErrForm},
		{"-00", api.ErrForm},
		{"1a", api.ErrForm},
		{"-1a", api.ErrForm},
		{"-a", api.ErrForm},
		{"--", api.ErrForm},
		{"--1", api.ErrForm},
		{"---1", api.ErrForm},
		{"-+1", api.ErrForm},
		{"+-1", api.ErrForm},
		{"1-", api.ErrForm},
		{"-1-", api.ErrForm},
		{"1-1", api.ErrForm},
		{" ", api.ErrForm},
		{" 1", api.ErrForm},
		{"1 ", api.ErrForm},
		{" -1", api.ErrForm},
		{"- 1", api.ErrForm},
		{"-1 ", api.ErrForm},
		{"-1\n", api.ErrForm},
		{"-1\x00", api.ErrForm},
		{"-1.0", api.ErrForm},
		{"-1/2", api.ErrForm},
		{"-1e3", api.ErrForm},
		{"-0x1", api.ErrForm},
		{"\u22121", api.ErrForm}, // a minus sign, but not the byte -
		{long, api.ErrLong},
		{"-" + long, api.ErrLong},
		{"-" + long + long, api.ErrLong},
		{"--" + long, api.ErrForm},
		{"-0" + long, api.ErrForm},
		{"-" + long + "a", api.ErrForm},
		{"-" + long[1:] + "a", api.ErrForm},
		{"-" + strings.Repeat("0", dec.MaxDigits+1), api.ErrForm},
	} {
		x, e := Read(c.s)
		if e != c.want {
			t.Errorf("Read(%.30q): error %d, want %d", c.s, e, c.want)
		}
		equal(t, "beside the error", x, api.Int{})
	}
}

// P5.3: the - is no digit: as many digits as are read at most may follow it.
func TestP5_3_MaxDigits(t *testing.T) {
	for _, digits := range []string{strings.Repeat("7", dec.MaxDigits), "1" + strings.Repeat("0", dec.MaxDigits-1), strings.Repeat("9", dec.MaxDigits)} {
		mag, e := dec.Read(digits)
		if e != api.OK {
			t.Fatalf("dec.Read: error %d", e)
		}
		equal(t, "Read", read(t, digits), api.Int{Mag: mag})
		equal(t, "Read", read(t, "-"+digits), api.Int{Neg: true, Mag: mag})
	}
}

// P5.3: every byte in every place of a short text.
func TestP5_3_EveryByte(t *testing.T) {
	for c := range 256 {
		b := string([]byte{byte(c)})
		for _, s := range []string{b, b + "5", "5" + b, "-" + b, "-" + b + "5", "-5" + b, b + "-5", "-" + b + "-"} {
			want := api.OK
			switch n, err := strconv.Atoi(s); {
			case s == "-":
				want = api.ErrShort
			case err != nil || strconv.Itoa(n) != s:
				want = api.ErrForm
			}
			if _, e := Read(s); e != want {
				t.Errorf("Read(%q): error %d, want %d", s, e, want)
			}
		}
	}
}

// P5.4: sums and products do not hang on the order of two numbers, and a difference is the sum with the negated one.
func TestP5_4_Commutative(t *testing.T) {
	for _, x := range samples() {
		for _, y := range samples() {
			equal(t, "y + x", Add(y, x), Add(x, y))
			equal(t, "y * x", Mul(y, x), Mul(x, y))
			equal(t, "x - y", Sub(x, y), Add(x, Neg(y)))
			equal(t, "x - y", Sub(x, y), Neg(Sub(y, x)))
			equal(t, "x + y - y", Sub(Add(x, y), y), x)
		}
	}
}

// P5.4: sums and products do not hang on how three numbers are grouped, and a product of a sum is a sum of products.
func TestP5_4_Three(t *testing.T) {
	for _, x := range few() {
		for _, y := range few() {
			for _, z := range few() {
				equal(t, "sums", Add(Add(x, y), z), Add(x, Add(y, z)))
				equal(t, "products", Mul(Mul(x, y), z), Mul(x, Mul(y, z)))
				equal(t, "both", Mul(x, Add(y, z)), Add(Mul(x, y), Mul(x, z)))
			}
		}
	}
}

// P5.5: a number added to both keeps the order; a factor keeps it, reverses it or makes both equal, by its sign.
func TestP5_5_Order(t *testing.T) {
	for _, x := range few() {
		for _, y := range few() {
			for _, z := range samples() {
				if Cmp(Add(x, z), Add(y, z)) != Cmp(x, y) {
					t.Fatalf("%v and %v, with %v added", x, y, z)
				}
				want := Cmp(x, y)
				switch {
				case len(z.Mag) == 0:
					want = 0
				case z.Neg:
					want = -want
				}
				if Cmp(Mul(x, z), Mul(y, z)) != want {
					t.Fatalf("%v and %v, times %v", x, y, z)
				}
			}
		}
	}
}

// P5.5: exactly those numbers are equal whose difference is 0, whose sign tells the order of the others.
func TestP5_5_Difference(t *testing.T) {
	l := samples()
	for i, x := range l {
		for j, y := range l {
			order := Cmp(x, y)
			if order != Sign(Sub(x, y)) || order != -Cmp(y, x) || (order == 0) != (i == j) {
				t.Fatalf("Cmp(%v, %v) = %d", x, y, order)
			}
		}
	}
}

// P5.6: the quotient times y, plus the remainder, is x, and the remainder is at least 0 and less than y without its sign.
func TestP5_6_Back(t *testing.T) {
	for _, x := range samples() {
		for _, y := range samples() {
			if Sign(y) == 0 {
				continue
			}
			q, r := div(t, x, y)
			equal(t, "q*y + r", Add(Mul(q, y), r), x)
			if Sign(r) < 0 || Cmp(r, Make(false, y.Mag)) >= 0 {
				t.Fatalf("Div(%v, %v): remainder %v", x, y, r)
			}
		}
	}
}

// P5.6: c times y added to x adds c to the quotient and leaves the remainder.
func TestP5_6_Multiples(t *testing.T) {
	for _, x := range samples() {
		for _, y := range few() {
			if Sign(y) == 0 {
				continue
			}
			q, r := div(t, x, y)
			for _, c := range few() {
				more, rest := div(t, Add(x, Mul(c, y)), y)
				equal(t, "quotient", more, Add(q, c))
				equal(t, "remainder", rest, r)
			}
		}
	}
}

// P5.6: around each multiple: the least and the greatest remainder, whatever the signs.
func TestP5_6_Edges(t *testing.T) {
	for _, q := range samples() {
		for _, y := range samples() {
			if Sign(y) == 0 {
				continue
			}
			for _, r := range []api.Int{{}, Sub(Make(false, y.Mag), Of(1))} {
				gotQ, gotR := div(t, Add(Mul(q, y), r), y)
				equal(t, "quotient", gotQ, q)
				equal(t, "remainder", gotR, r)
			}
		}
	}
}

// P5.7: a product is negative if one factor alone is, and neither is 0.
func TestP5_7_Products(t *testing.T) {
	for _, x := range append(samples(), zeros()...) {
		for _, y := range append(samples(), zeros()...) {
			product := Mul(x, y)
			if product.Neg != (x.Neg != y.Neg && Sign(x) != 0 && Sign(y) != 0) || Sign(product) != Sign(x)*Sign(y) {
				t.Fatalf("Mul(%v, %v) = %v", x, y, product)
			}
		}
	}
}

// P5.7: negating twice returns the number, and a number and its negation add up to 0.
func TestP5_7_Negations(t *testing.T) {
	for _, x := range samples() {
		equal(t, "--x", Neg(Neg(x)), x)
		equal(t, "x + -x", Add(x, Neg(x)), api.Int{})
		equal(t, "-x + x", Add(Neg(x), x), api.Int{})
		equal(t, "x - x", Sub(x, x), api.Int{})
		if Sign(Neg(x)) != -Sign(x) {
			t.Errorf("Sign(Neg(%v)) = %d", x, Sign(Neg(x)))
		}
	}
}

// P5.8: Read of Show is the number, Show of Read the text; no two numbers have the same one.
func TestP5_8_Texts(t *testing.T) {
	seen := map[string]bool{}
	for _, x := range samples() {
		s := Show(x)
		equal(t, "Read", read(t, s), x)
		if seen[s] {
			t.Errorf("two numbers are shown as %q", s)
		}
		seen[s] = true
	}
	x := uint64(362436069)
	for n := range 100 {
		digits := []byte{'1' + byte(scramble(&x)%9)}
		for range n {
			digits = append(digits, '0'+byte(scramble(&x)%10))
		}
		for _, s := range []string{string(digits), "-" + string(digits)} {
			if got := Show(read(t, s)); got != s {
				t.Errorf("Show(Read(%q)) = %q", s, got)
			}
		}
	}
	for _, s := range []string{"0", "-1", strings.Repeat("8", dec.MaxDigits), "-" + strings.Repeat("8", dec.MaxDigits)} {
		if got := Show(read(t, s)); got != s {
			t.Errorf("Show(Read(%.30q)) = %.30q", s, got)
		}
	}
}

// P5.8: Small of Of is the number, and Of of Small too.
func TestP5_8_Small(t *testing.T) {
	words := []int64{0, 1, -1, math.MaxInt64, -math.MaxInt64, math.MinInt64, math.MinInt64 + 1, 1 << 32, -1 << 32}
	x := uint64(521288629)
	for range 500 {
		w := int64(scramble(&x))
		words = append(words, w, w>>(scramble(&x)%64))
	}
	for _, n := range words {
		if got, ok := Small(Of(n)); got != n || !ok {
			t.Errorf("Small(Of(%d)) = %d, %t", n, got, ok)
		}
		if got := Show(Of(n)); got != strconv.FormatInt(n, 10) {
			t.Errorf("Show(Of(%d)) = %q", n, got)
		}
	}
	for _, x := range samples() {
		if n, ok := Small(x); ok {
			equal(t, "Of", Of(n), x)
		}
	}
}

// answers are what all calls with these two numbers answer, in text; results are the integers among the answers.
func answers(x, y api.Int) (text string, results []api.Int) {
	q, r, e := Div(x, y)
	again, e2 := Read(Show(x))
	small, ok := Small(x)
	results = []api.Int{Make(x.Neg, x.Mag), Neg(x), Add(x, y), Sub(x, y), Mul(x, y), q, r, again, Of(small)}
	for _, z := range results {
		text += strconv.FormatBool(z.Neg)
		for _, limb := range z.Mag {
			text += " " + strconv.FormatUint(limb, 16)
		}
		text += ";"
	}
	for _, n := range []int{int(e), int(e2), Sign(x), Cmp(x, y), int(small)} {
		text += strconv.Itoa(n) + ";"
	}
	return text + strconv.FormatBool(ok) + ";" + Show(x), results
}

// P5.9: all calls return the same for different spellings of one number, and what they return is valid.
func TestP5_9_Spellings(t *testing.T) {
	for _, x := range samples() {
		for _, y := range samples() {
			want, _ := answers(x, y)
			for _, a := range spellings(x) {
				for _, b := range spellings(y) {
					got, results := answers(a, b)
					if got != want {
						t.Fatalf("%v and %v: %s, want %s", a, b, got, want)
					}
					for _, z := range results {
						if !May(z) || z.Neg && len(z.Mag) == 0 {
							t.Fatalf("%v and %v: the result %v", a, b, z)
						}
					}
				}
			}
		}
	}
}

// roomy is x with room behind its limbs, to see what is written there.
func roomy(x api.Int) (y api.Int, all api.Nat) {
	all = append(slices.Clone(x.Mag), 5, 6, 7)
	return api.Int{Neg: x.Neg, Mag: all[:len(x.Mag)]}, all
}

// P5.9: results may be overwritten, up to the end of their memory: no argument, no other result and no later one changes.
func TestP5_9_Overwritten(t *testing.T) {
	for _, x := range samples() {
		for _, y := range samples() {
			a, allA := roomy(x)
			b, allB := roomy(y)
			keptA, keptB := slices.Clone(allA), slices.Clone(allB)
			want, results := answers(a, b)
			for i, z := range results {
				later := make([]api.Int, 0, len(results))
				for _, other := range results[i+1:] {
					later = append(later, api.Int{Neg: other.Neg, Mag: slices.Clone(other.Mag)})
				}
				memory := z.Mag[:cap(z.Mag)]
				for j := range memory {
					memory[j] = 77
				}
				for j, other := range later {
					equal(t, "another result", results[i+1+j], other)
				}
			}
			if !slices.Equal(allA, keptA) || !slices.Equal(allB, keptB) {
				t.Fatalf("%v and %v: the arguments are %v and %v", x, y, allA, allB)
			}
			if got, _ := answers(a, b); got != want {
				t.Fatalf("%v and %v: %s, want %s", x, y, got, want)
			}
		}
	}
}
