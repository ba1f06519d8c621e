package quo

import (
	"math"
	"slices"
	"testing"

	"tombola/api"
	"tombola/nat"
)

const half = 1 << 63

// scramble makes words without pattern, always the same ones.
func scramble(x *uint64) uint64 {
	*x ^= *x << 13
	*x ^= *x >> 7
	*x ^= *x << 17
	return *x
}

// samples are numbers around the edges of a limb, such that make estimates wrong, and some without pattern.
func samples() []api.Nat {
	l := []api.Nat{
		nil, {1}, {2}, {3}, {6}, {10}, {255}, {256}, {half - 1}, {half}, {most - 1}, {most},
		{0, 1}, {1, 1}, {most, 7}, {2, half}, {0, half}, {most, half}, {0, most}, {most, most - 1}, {most, most},
		{0, 0, 1}, {1, 0, 1}, {0, 1, 1}, {most, 0, most}, {most, most, most}, {3, 0, half}, {1, 0, 1 << 61}, {1, 0, half},
		{0, 0, 0, half}, {0, 0, half, half - 1}, {0, most - 1, half, 1}, {most, most, most, most, most},
	}
	x := uint64(88172645463325252)
	for n := range 6 {
		for range 2 {
			l = append(l, scrambled(n+1, &x))
		}
	}
	return l
}

func scrambled(n int, x *uint64) api.Nat {
	a := make(api.Nat, n)
	for i := range a {
		a[i] = scramble(x)
	}
	return a
}

// few are enough where three numbers are combined.
func few() []api.Nat {
	return []api.Nat{nil, {1}, {7}, {12}, {most}, {0, 1}, {most, most}, {5, 0, half}, {0x9e3779b97f4a7c15, 0xbf58476d1ce4e5b9, 0x94d049bb133111eb}}
}

// padded are spellings of a with zero limbs at the end.
func padded(a api.Nat) []api.Nat {
	return []api.Nat{append(slices.Clone(a), 0), append(slices.Clone(a), 0, 0, 0)}
}

// slowDiv brings down bit after bit, by the arithmetic of the layer below alone.
func slowDiv(t *testing.T, a, b api.Nat) (q, r api.Nat) {
	for i := nat.Len(a) - 1; i >= 0; i-- {
		q, r = nat.Add(q, q), nat.Add(r, r)
		if nat.Bit(a, i) {
			r = nat.Add(r, nat.Of(1))
		}
		if nat.Cmp(r, b) >= 0 {
			q, r = nat.Add(q, nat.Of(1)), sub(t, r, b)
		}
	}
	return q, r
}

// slowGcd halves and subtracts, and never divides.
func slowGcd(t *testing.T, a, b api.Nat) api.Nat {
	if nat.Zero(a) || nat.Zero(b) {
		return nat.Add(a, b)
	}
	twos := 0
	for !nat.Bit(a, 0) && !nat.Bit(b, 0) {
		a, b = halved(t, a), halved(t, b)
		twos++
	}
	for !nat.Zero(a) {
		for !nat.Bit(a, 0) {
			a = halved(t, a)
		}
		for !nat.Bit(b, 0) {
			b = halved(t, b)
		}
		if nat.Cmp(a, b) < 0 {
			a, b = b, a
		}
		a = sub(t, a, b)
	}
	return shl(t, b, twos)
}

func sub(t *testing.T, a, b api.Nat) api.Nat {
	t.Helper()
	diff, e := nat.Sub(a, b)
	if e != api.OK {
		t.Fatalf("nat.Sub(%v, %v): error %d", a, b, e)
	}
	return diff
}

func shl(t *testing.T, a api.Nat, n int) api.Nat {
	t.Helper()
	shifted, e := nat.Shl(a, n)
	if e != api.OK {
		t.Fatalf("nat.Shl(%v, %d): error %d", a, n, e)
	}
	return shifted
}

func halved(t *testing.T, a api.Nat) api.Nat {
	t.Helper()
	h, e := nat.Shr(a, 1)
	if e != api.OK {
		t.Fatalf("nat.Shr(%v, 1): error %d", a, e)
	}
	return h
}

// div, pow are for arguments that are not refused.

func div(t *testing.T, a, b api.Nat) (q, r api.Nat) {
	t.Helper()
	q, r, e := Div(a, b)
	if e != api.OK {
		t.Fatalf("Div(%v, %v): error %d", a, b, e)
	}
	return q, r
}

func pow(t *testing.T, a api.Nat, n int) api.Nat {
	t.Helper()
	p, e := Pow(a, n)
	if e != api.OK {
		t.Fatalf("Pow(%v, %d): error %d", a, n, e)
	}
	return p
}

func equal(t *testing.T, what string, got, want api.Nat) {
	t.Helper()
	if !slices.Equal(got, want) {
		t.Fatalf("%s: %v, want %v", what, got, want)
	}
}

// P3.1: Div returns the quotient and the remainder: the chapter's examples, and numbers for which an estimate is wrong.
func TestP3_1_DivExamples(t *testing.T) {
	for _, c := range []struct{ a, b, q, r api.Nat }{
		{api.Nat{17}, api.Nat{5}, api.Nat{3}, api.Nat{2}},
		{api.Nat{0, 1}, api.Nat{3}, api.Nat{6148914691236517205}, api.Nat{1}},
		{api.Nat{5}, api.Nat{17}, nil, api.Nat{5}},
		{nil, api.Nat{17}, nil, nil},
		{nil, api.Nat{0, 1}, nil, nil},
		{api.Nat{17}, api.Nat{17}, api.Nat{1}, nil},
		{api.Nat{1, 2, 3}, api.Nat{1}, api.Nat{1, 2, 3}, nil},
		{api.Nat{1, 2, 3}, api.Nat{1, 2, 3}, api.Nat{1}, nil},
		{api.Nat{0, 2, 3}, api.Nat{1, 2, 3}, nil, api.Nat{0, 2, 3}},
		{api.Nat{2, 2, 3}, api.Nat{1, 2, 3}, api.Nat{1}, api.Nat{1}},
		{api.Nat{5, 6, 7}, api.Nat{0, 1}, api.Nat{6, 7}, api.Nat{5}},
		{api.Nat{most, most}, api.Nat{most}, api.Nat{1, 1}, nil},
		{api.Nat{0, 0, 1}, api.Nat{most, most}, api.Nat{1}, api.Nat{1}},
		// The divisor has to be given back.
		{api.Nat{3, 0, half}, api.Nat{1, 0, 1 << 61}, api.Nat{3}, api.Nat{0, 0, 1 << 61}},
		// The highest limbs are equal.
		{api.Nat{0, 0, half, half - 1}, api.Nat{1, 0, half}, api.Nat{most - 1}, api.Nat{2, most, half - 1}},
		{api.Nat{0, most - 1, half}, api.Nat{most, half}, api.Nat{most}, api.Nat{most, half - 1}},
	} {
		q, r := div(t, c.a, c.b)
		equal(t, "quotient", q, c.q)
		equal(t, "remainder", r, c.r)
	}
}

// P3.1: Div does as the slow division.
func TestP3_1_DivSamples(t *testing.T) {
	for _, a := range samples() {
		for _, b := range samples() {
			if nat.Zero(b) {
				continue
			}
			q, r := div(t, a, b)
			wantQ, wantR := slowDiv(t, a, b)
			equal(t, "quotient", q, wantQ)
			equal(t, "remainder", r, wantR)
		}
	}
}

// P3.1: Div refuses the divisor 0, whatever limbs it has.
func TestP3_1_DivRefused(t *testing.T) {
	for _, a := range append(samples(), api.Nat{0}) {
		for _, b := range []api.Nat{nil, {}, {0}, {0, 0, 0}} {
			if q, r, e := Div(a, b); q != nil || r != nil || e != api.ErrZero {
				t.Errorf("Div(%v, %v) = %v, %v, %d, want ErrZero", a, b, q, r, e)
			}
		}
	}
}

// P3.1: Gcd returns the greatest common divisor, also of 0.
func TestP3_1_GcdExamples(t *testing.T) {
	for _, c := range []struct{ a, b, want api.Nat }{
		{api.Nat{12}, api.Nat{18}, api.Nat{6}},
		{nil, api.Nat{7}, api.Nat{7}},
		{api.Nat{7}, nil, api.Nat{7}},
		{nil, nil, nil},
		{api.Nat{}, api.Nat{0}, nil},
		{api.Nat{0}, api.Nat{3, 4, 0}, api.Nat{3, 4}},
		{api.Nat{1}, api.Nat{3, 4}, api.Nat{1}},
		{api.Nat{5}, api.Nat{5}, api.Nat{5}},
		{api.Nat{0, 6}, api.Nat{0, 4}, api.Nat{0, 2}},
		{api.Nat{0, 0, 3}, api.Nat{0, 9}, api.Nat{0, 3}},
		{api.Nat{most}, api.Nat{15}, api.Nat{15}},
	} {
		equal(t, "Gcd", Gcd(c.a, c.b), c.want)
	}
}

// P3.1: Gcd does as a slow one that never divides.
func TestP3_1_GcdSamples(t *testing.T) {
	for _, a := range samples() {
		for _, b := range samples() {
			equal(t, "Gcd", Gcd(a, b), slowGcd(t, a, b))
		}
	}
	for a := range uint64(40) {
		for b := range uint64(40) {
			equal(t, "Gcd", Gcd(nat.Of(a), nat.Of(b)), slowGcd(t, nat.Of(a), nat.Of(b)))
		}
	}
}

// P3.1: Two neighbours of Fibonacci's numbers take the most rounds, and have no common divisor.
func TestP3_1_GcdFibonacci(t *testing.T) {
	a, b := nat.Of(0), nat.Of(1)
	for range 3000 {
		a, b = b, nat.Add(a, b)
	}
	equal(t, "Gcd", Gcd(a, b), nat.Of(1))
	equal(t, "Gcd", Gcd(nat.Mul(a, b), nat.Mul(b, b)), b)
}

// P3.1: Pow returns the power, 1 for n = 0.
func TestP3_1_PowExamples(t *testing.T) {
	for _, c := range []struct {
		a    api.Nat
		n    int
		want api.Nat
	}{
		{api.Nat{2}, 64, api.Nat{0, 1}},
		{nil, 0, api.Nat{1}},
		{api.Nat{0, 0}, 0, api.Nat{1}},
		{nil, 1, nil},
		{api.Nat{0}, 2, nil},
		{nil, api.MaxPow + 1, nil},
		{nil, math.MaxInt, nil},
		{api.Nat{1}, 1 << 20, api.Nat{1}},
		{api.Nat{1}, 1<<20 - 1, api.Nat{1}},
		{api.Nat{3}, 0, api.Nat{1}},
		{api.Nat{3, 4, 5}, 0, api.Nat{1}},
		{api.Nat{3, 4, 5}, 1, api.Nat{3, 4, 5}},
		{api.Nat{3}, 4, api.Nat{81}},
		{api.Nat{10}, 19, api.Nat{10000000000000000000}},
		{api.Nat{10}, 20, api.Nat{7766279631452241920, 5}},
		{api.Nat{most}, 2, api.Nat{1, most - 1}},
	} {
		equal(t, "Pow", pow(t, c.a, c.n), c.want)
	}
}

// P3.1: Pow does as repeated multiplication.
func TestP3_1_PowSamples(t *testing.T) {
	for _, a := range samples() {
		want := nat.Of(1)
		for n := range 20 {
			equal(t, "Pow", pow(t, a, n), want)
			want = nat.Mul(want, a)
		}
	}
}

// P3.1: Pow refuses n below 0 ahead of all else, and what is longer than MaxPow by the length of a alone.
func TestP3_1_PowRefused(t *testing.T) {
	long := make(api.Nat, 1<<20/64+1) // 2^(2^20): one bit longer than MaxPow
	long[len(long)-1] = 1
	for _, c := range []struct {
		a    api.Nat
		n    int
		want api.Errno
	}{
		{api.Nat{3}, -1, api.ErrArg},
		{nil, -1, api.ErrArg},
		{long, -1, api.ErrArg},
		{api.Nat{3}, math.MinInt, api.ErrArg},
		{api.Nat{1}, 1<<20 + 1, api.ErrLong},
		{api.Nat{1}, math.MaxInt, api.ErrLong},
		{api.Nat{2}, 1<<19 + 1, api.ErrLong},
		{api.Nat{7}, 349526, api.ErrLong}, // 3 * 349526 is 2^20 + 2
		{api.Nat{0, 1}, math.MaxInt/65 + 1, api.ErrLong},
		{api.Nat{0, 1 << 63}, 1 << 57, api.ErrLong}, // the length times n is 2^64
		{api.Nat{0, 1 << 63}, 1<<57 + 1, api.ErrLong},
		{long, 1, api.ErrLong},
	} {
		if got, e := Pow(c.a, c.n); got != nil || e != c.want {
			t.Errorf("Pow(.., %d) = %v, %d, want error %d", c.n, got, e, c.want)
		}
	}
}

// P3.1: The greatest exponents that Pow allows.
func TestP3_1_PowAllowed(t *testing.T) {
	equal(t, "Pow", pow(t, nat.Of(2), 1<<19), append(make(api.Nat, 1<<19/64), 1))
	if got := nat.Len(pow(t, nat.Of(7), 349525)); got != 981241 { // log2 of 7 is 2.80735492
		t.Errorf("length %d", got)
	}
	whole := make(api.Nat, 1<<20/64) // as long as MaxPow
	whole[len(whole)-1] = half
	equal(t, "Pow", pow(t, whole, 1), whole)
	equal(t, "Pow", pow(t, append(whole, 1), 0), nat.Of(1))
}

// P3.2: The quotient times b, plus the remainder, is a, and the remainder is less than b.
func TestP3_2_Back(t *testing.T) {
	for _, a := range samples() {
		for _, b := range samples() {
			if nat.Zero(b) {
				continue
			}
			q, r := div(t, a, b)
			equal(t, "q*b+r", nat.Add(nat.Mul(q, b), r), a)
			if nat.Cmp(r, b) >= 0 {
				t.Errorf("Div(%v, %v): remainder %v", a, b, r)
			}
		}
	}
}

// P3.2: Div of q times b plus r returns q and r: for the least and the greatest remainders, and for others.
func TestP3_2_Forth(t *testing.T) {
	for _, q := range samples() {
		for _, b := range samples() {
			if nat.Zero(b) {
				continue
			}
			for _, r := range append(few(), sub(t, b, nat.Of(1))) {
				if nat.Cmp(r, b) >= 0 {
					continue
				}
				gotQ, gotR := div(t, nat.Add(nat.Mul(q, b), r), b)
				equal(t, "quotient", gotQ, q)
				equal(t, "remainder", gotR, r)
			}
		}
	}
}

// P3.2: Numbers of very many limbs.
func TestP3_2_Long(t *testing.T) {
	x := uint64(2463534242)
	for _, n := range []int{1, 2, 3, 50, 300} {
		q, b := scrambled(301-n, &x), scrambled(n, &x)
		r := sub(t, b, nat.Of(1))
		gotQ, gotR := div(t, nat.Add(nat.Mul(q, b), r), b)
		equal(t, "quotient", gotQ, q)
		equal(t, "remainder", gotR, r)
	}
}

// P3.3: Adding c times b to a adds c to the quotient.
func TestP3_3_Multiples(t *testing.T) {
	for _, a := range samples() {
		for _, b := range samples() {
			if nat.Zero(b) {
				continue
			}
			q, r := div(t, a, b)
			for _, c := range few() {
				gotQ, gotR := div(t, nat.Add(a, nat.Mul(c, b)), b)
				equal(t, "quotient", gotQ, nat.Add(q, c))
				equal(t, "remainder", gotR, r)
			}
		}
	}
}

// P3.3: Dividing by b and then by c is dividing by b times c.
func TestP3_3_InTwoSteps(t *testing.T) {
	for _, a := range samples() {
		for _, b := range few()[1:] {
			for _, c := range few()[1:] {
				first, _ := div(t, a, b)
				second, _ := div(t, first, c)
				q, _ := div(t, a, nat.Mul(b, c))
				equal(t, "quotient", second, q)
			}
		}
	}
}

// P3.4: The greatest common divisor divides both, and what is left has no common divisor above 1.
func TestP3_4_Divides(t *testing.T) {
	for _, a := range samples() {
		for _, b := range samples() {
			d := Gcd(a, b)
			if nat.Zero(d) {
				continue
			}
			x, first := div(t, a, d)
			y, second := div(t, b, d)
			equal(t, "remainder", first, nil)
			equal(t, "remainder", second, nil)
			equal(t, "Gcd", Gcd(x, y), nat.Of(1))
		}
	}
}

// P3.4: The greatest common divisor is symmetric, and that of b and the remainder of a by b.
func TestP3_4_Symmetric(t *testing.T) {
	for _, a := range samples() {
		for _, b := range samples() {
			d := Gcd(a, b)
			equal(t, "Gcd", Gcd(b, a), d)
			if nat.Zero(b) {
				continue
			}
			_, r := div(t, a, b)
			equal(t, "Gcd", Gcd(b, r), d)
		}
	}
}

// P3.4: The greatest common divisor of c times a and c times b is c times that of a and b.
func TestP3_4_Multiples(t *testing.T) {
	for _, a := range samples() {
		for _, b := range samples() {
			d := Gcd(a, b)
			for _, c := range few() {
				equal(t, "Gcd", Gcd(nat.Mul(c, a), nat.Mul(c, b)), nat.Mul(c, d))
			}
		}
	}
}

// P3.5: Sums and products of exponents, and products of bases.
func TestP3_5_Powers(t *testing.T) {
	for _, a := range samples() {
		for n := range 7 {
			for m := range 7 {
				first, second := pow(t, a, n), pow(t, a, m)
				equal(t, "sum of exponents", pow(t, a, n+m), nat.Mul(first, second))
				equal(t, "product of exponents", pow(t, first, m), pow(t, a, n*m))
			}
			for _, b := range few() {
				equal(t, "product of bases", pow(t, nat.Mul(a, b), n), nat.Mul(pow(t, a, n), pow(t, b, n)))
			}
		}
	}
}

// P3.5: 2 to the power of n is 1 shifted by n.
func TestP3_5_Shifts(t *testing.T) {
	for _, n := range []int{0, 1, 2, 3, 5, 63, 64, 65, 127, 128, 1000, 4096, 65535, 65536} {
		equal(t, "Pow", pow(t, nat.Of(2), n), shl(t, nat.Of(1), n))
	}
}

// results are all that the calls return for these arguments.
func results(a, b api.Nat, n int) []api.Nat {
	q, r, e := Div(a, b)
	p, f := Pow(a, n)
	return []api.Nat{q, r, {uint64(e)}, Gcd(a, b), Gcd(b, a), p, {uint64(f)}}
}

// P3.6: Trailing zero limbs of arguments change no result, and no result has any.
func TestP3_6_TrailingZeros(t *testing.T) {
	for _, a := range samples() {
		for _, b := range samples() {
			want := results(a, b, 5)
			for i, x := range want {
				if i != 2 && i != 6 && len(x) > 0 && x[len(x)-1] == 0 {
					t.Fatalf("result %d of %v, %v: %v", i, a, b, x)
				}
			}
			for i := range 2 {
				x, y := padded(a)[i], padded(b)[i]
				for _, got := range [][]api.Nat{results(x, b, 5), results(a, y, 5), results(x, y, 5)} {
					if !slices.EqualFunc(got, want, slices.Equal[api.Nat]) {
						t.Fatalf("%v, %v: %v, want %v", x, y, got, want)
					}
				}
			}
		}
	}
}

// P3.6: The length that Pow asks for is that without leading zeros.
func TestP3_6_PowLength(t *testing.T) {
	one := append(api.Nat{1}, make(api.Nat, 1<<15)...)
	equal(t, "Pow", pow(t, one, 1<<20), nat.Of(1))
	equal(t, "Pow", pow(t, make(api.Nat, 1<<15), math.MaxInt), nil)
}

// roomy is a with some zero limbs at the end, and with other numbers behind it in the same memory.
func roomy(a api.Nat, zeros int) api.Nat {
	n := len(a) + zeros
	room := append(slices.Clone(a), make(api.Nat, zeros)...)
	for range 4 {
		room = append(room, 77)
	}
	return room[:n]
}

// spoil overwrites all the memory that a has, also behind its end.
func spoil(a api.Nat) {
	a = a[:cap(a)]
	for i := range a {
		a[i] = 99
	}
}

// P3.7: Results may be overwritten, and a call changes no argument.
func TestP3_7_Independence(t *testing.T) {
	for _, p := range samples() {
		for _, q := range samples() {
			for zeros := range 2 {
				a, b := roomy(p, zeros), roomy(q, zeros)
				first, second := slices.Clone(a[:cap(a)]), slices.Clone(b[:cap(b)])
				for _, x := range results(a, b, 1) {
					spoil(x)
				}
				equal(t, "argument", a[:cap(a)], first)
				equal(t, "argument", b[:cap(b)], second)
			}
		}
	}
}

// P3.7: No two results of one call share memory.
func TestP3_7_TwoResults(t *testing.T) {
	for _, a := range samples() {
		for _, b := range samples()[1:] {
			q, r := div(t, a, b)
			_, want := div(t, a, b)
			spoil(q)
			equal(t, "remainder", r, want)
		}
	}
}

// P3.7: What a call has returned is not changed by a later one, nor by overwriting its arguments.
func TestP3_7_Kept(t *testing.T) {
	for _, p := range samples() {
		for _, q := range samples()[1:] {
			want := results(p, q, 1)
			a, b := roomy(p, 0), roomy(q, 0)
			got := results(a, b, 1)
			for _, x := range results(a, b, 1) {
				spoil(x)
			}
			spoil(a)
			spoil(b)
			if !slices.EqualFunc(got, want, slices.Equal[api.Nat]) {
				t.Fatalf("%v, %v: %v, want %v", p, q, got, want)
			}
		}
	}
}
