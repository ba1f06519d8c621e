package nat

import (
	"cmp"
	"math"
	"slices"
	"testing"

	"tombola/api"
)

const most = math.MaxUint64

// scramble makes words without pattern, always the same ones.
func scramble(x *uint64) uint64 {
	*x ^= *x << 13
	*x ^= *x >> 7
	*x ^= *x << 17
	return *x
}

// samples are numbers around the edges of a limb, with long chains of carries, and some without pattern; no two are equal.
func samples() []api.Nat {
	l := []api.Nat{
		nil, {1}, {2}, {3}, {10}, {255}, {256}, {1<<63 - 1}, {1 << 63}, {most - 1}, {most},
		{0, 1}, {1, 1}, {most, 7}, {2, 1 << 63}, {0, most}, {most, most - 1}, {most, most},
		{0, 0, 1}, {1, 0, 1}, {most, 0, most}, {most, most, most}, {0, 0, 0, 1 << 63}, {most, most, most, most, most},
	}
	x := uint64(88172645463325252)
	for n := range 6 {
		for range 2 {
			a := make(api.Nat, n+1)
			for i := range a {
				a[i] = scramble(&x)
			}
			l = append(l, a)
		}
	}
	return l
}

// few are enough where three numbers are combined.
func few() []api.Nat {
	return []api.Nat{nil, {1}, {7}, {most}, {0, 1}, {most, most}, {5, 0, 1 << 63}, {0x9e3779b97f4a7c15, 0xbf58476d1ce4e5b9, 0x94d049bb133111eb}}
}

// ones is 2 to the power of 64 times n, less 1.
func ones(n int) api.Nat {
	a := make(api.Nat, n)
	for i := range a {
		a[i] = most
	}
	return a
}

// padded are spellings of a with zero limbs at the end.
func padded(a api.Nat) []api.Nat {
	return []api.Nat{append(slices.Clone(a), 0), append(slices.Clone(a), 0, 0, 0)}
}

// The slow arithmetic of these tests has one bit a place, the lowest first, and no 0 at the end.

func bitsOf(a api.Nat) []byte {
	var l []byte
	for _, limb := range a {
		for i := range 64 {
			l = append(l, byte(limb>>i&1))
		}
	}
	return cut(l)
}

func cut(l []byte) []byte {
	for len(l) > 0 && l[len(l)-1] == 0 {
		l = l[:len(l)-1]
	}
	return l
}

func natOf(l []byte) api.Nat {
	var a api.Nat
	for i, bit := range l {
		if i%64 == 0 {
			a = append(a, 0)
		}
		a[i/64] |= uint64(bit) << (i % 64)
	}
	return a
}

func at(l []byte, i int) byte {
	if i < len(l) {
		return l[i]
	}
	return 0
}

func slowAdd(a, b []byte) []byte {
	var sum []byte
	carry := byte(0)
	for i := range max(len(a), len(b)) + 1 {
		n := at(a, i) + at(b, i) + carry
		sum = append(sum, n%2)
		carry = n / 2
	}
	return cut(sum)
}

// slowSub is for a that is no less than b.
func slowSub(a, b []byte) []byte {
	var diff []byte
	borrow := byte(0)
	for i := range a {
		n := 2 + at(a, i) - at(b, i) - borrow
		diff = append(diff, n%2)
		borrow = 1 - n/2
	}
	return cut(diff)
}

func slowMul(a, b []byte) []byte {
	var product []byte
	for i, bit := range b {
		if bit == 1 {
			product = slowAdd(product, slowShl(a, i))
		}
	}
	return product
}

func slowShl(a []byte, n int) []byte {
	return cut(append(make([]byte, n), a...))
}

func slowShr(a []byte, n int) []byte {
	return a[min(n, len(a)):]
}

func slowCmp(a, b []byte) int {
	if len(a) != len(b) {
		return cmp.Compare(len(a), len(b))
	}
	for i := len(a) - 1; i >= 0; i-- {
		if a[i] != b[i] {
			return cmp.Compare(a[i], b[i])
		}
	}
	return 0
}

// shift is Shl or Shr, for numbers of bits that no rule refuses.
func shift(t *testing.T, by func(api.Nat, int) (api.Nat, api.Errno), a api.Nat, n int) api.Nat {
	t.Helper()
	x, e := by(a, n)
	if e != api.OK {
		t.Fatalf("%d shifted by %d: error %d", a, n, e)
	}
	return x
}

// P2.1: trailing zero limbs go, all others stay.
func TestP2_1_Trim(t *testing.T) {
	cases := []struct{ a, want api.Nat }{
		{nil, nil},
		{api.Nat{}, nil},
		{api.Nat{0}, nil},
		{api.Nat{0, 0, 0}, nil},
		{api.Nat{1}, api.Nat{1}},
		{api.Nat{1, 0}, api.Nat{1}},
		{api.Nat{0, 1}, api.Nat{0, 1}},
		{api.Nat{0, 1, 0, 0}, api.Nat{0, 1}},
		{api.Nat{most, 0, 5, 0}, api.Nat{most, 0, 5}},
	}
	for _, c := range cases {
		if x := Trim(c.a); !slices.Equal(x, c.want) {
			t.Errorf("Trim(%d) = %d", c.a, x)
		}
	}
	for _, a := range samples() {
		for _, p := range append(padded(a), a) {
			if x := Trim(p); !slices.Equal(x, a) {
				t.Errorf("Trim(%d) = %d", p, x)
			}
		}
	}
}

// P2.1: a word as a natural number, and back.
func TestP2_1_Words(t *testing.T) {
	if x := Of(0); len(x) != 0 {
		t.Errorf("Of(0) = %d", x)
	}
	for _, n := range []uint64{1, 2, 255, 1 << 32, 1<<63 - 1, 1 << 63, most - 1, most} {
		if x := Of(n); !slices.Equal(x, api.Nat{n}) {
			t.Errorf("Of(%d) = %d", n, x)
		}
		if back, ok := Small(Of(n)); back != n || !ok {
			t.Errorf("Small(Of(%d)) = %d, %t", n, back, ok)
		}
	}
	cases := []struct {
		a    api.Nat
		want uint64
		ok   bool
	}{
		{nil, 0, true},
		{api.Nat{0}, 0, true},
		{api.Nat{0, 0}, 0, true},
		{api.Nat{5}, 5, true},
		{api.Nat{5, 0}, 5, true},
		{api.Nat{most}, most, true},
		{api.Nat{most, 0, 0}, most, true},
		{api.Nat{0, 1}, 0, false},
		{api.Nat{5, 1}, 0, false},
		{api.Nat{5, 0, 1}, 0, false},
		{api.Nat{most, most}, 0, false},
	}
	for _, c := range cases {
		if n, ok := Small(c.a); n != c.want || ok != c.ok {
			t.Errorf("Small(%d) = %d, %t", c.a, n, ok)
		}
	}
}

// P2.1: what is 0.
func TestP2_1_Zero(t *testing.T) {
	for _, a := range []api.Nat{nil, {}, {0}, {0, 0, 0}} {
		if !Zero(a) {
			t.Errorf("Zero(%d) = false", a)
		}
	}
	for _, a := range samples() {
		if Zero(a) != (len(a) == 0) {
			t.Errorf("Zero(%d) = %t", a, Zero(a))
		}
	}
}

// P2.1: comparisons.
func TestP2_1_Cmp(t *testing.T) {
	cases := []struct {
		a, b api.Nat
		want int
	}{
		{nil, nil, 0},
		{nil, api.Nat{0, 0}, 0},
		{nil, api.Nat{1}, -1},
		{api.Nat{1}, nil, 1},
		{api.Nat{1, 0, 0}, api.Nat{2}, -1},
		{api.Nat{most}, api.Nat{0, 1}, -1},
		{api.Nat{0, 2}, api.Nat{most, 1}, 1},
		{api.Nat{1, 2}, api.Nat{2, 2}, -1},
		{api.Nat{1 << 63}, api.Nat{1}, 1},
	}
	for _, c := range cases {
		if n := Cmp(c.a, c.b); n != c.want {
			t.Errorf("Cmp(%d, %d) = %d", c.a, c.b, n)
		}
	}
	for _, a := range samples() {
		for _, b := range samples() {
			if n := Cmp(a, b); n != slowCmp(bitsOf(a), bitsOf(b)) {
				t.Errorf("Cmp(%d, %d) = %d", a, b, n)
			}
		}
	}
}

// P2.1: lengths.
func TestP2_1_Len(t *testing.T) {
	cases := []struct {
		a    api.Nat
		want int
	}{
		{nil, 0}, {api.Nat{0, 0}, 0}, {api.Nat{1}, 1}, {api.Nat{255}, 8}, {api.Nat{256}, 9}, {api.Nat{most}, 64},
		{api.Nat{0, 1}, 65}, {api.Nat{255, 0}, 8}, {api.Nat{0, 0, 1 << 63}, 192}, {ones(300), 19200},
	}
	for _, c := range cases {
		if n := Len(c.a); n != c.want {
			t.Errorf("Len(%d) = %d", c.a, n)
		}
	}
	for _, a := range samples() {
		if n := Len(a); n != len(bitsOf(a)) {
			t.Errorf("Len(%d) = %d", a, n)
		}
	}
}

// P2.1: every bit, and none outside the number.
func TestP2_1_Bit(t *testing.T) {
	for _, a := range samples() {
		l := bitsOf(a)
		for n := range len(l) + 200 {
			if Bit(a, n) != (at(l, n) == 1) {
				t.Errorf("Bit(%d, %d) = %t", a, n, Bit(a, n))
			}
		}
		for _, n := range []int{math.MinInt, math.MinInt + 1, -65, -64, -63, -2, -1, 1 << 20, math.MaxInt - 1, math.MaxInt} {
			if Bit(a, n) {
				t.Errorf("Bit(%d, %d) = true", a, n)
			}
		}
	}
}

// P2.2: the examples of sums, differences and products.
func TestP2_2_Examples(t *testing.T) {
	if x := Add(api.Nat{most}, api.Nat{1}); !slices.Equal(x, api.Nat{0, 1}) {
		t.Errorf("2^64 - 1 and 1: %d", x)
	}
	if x := Mul(api.Nat{most}, api.Nat{most}); !slices.Equal(x, api.Nat{1, most - 1}) {
		t.Errorf("2^64 - 1 times itself: %d", x)
	}
	if x, e := Sub(api.Nat{0, 1}, api.Nat{1}); !slices.Equal(x, api.Nat{most}) || e != api.OK {
		t.Errorf("2^64 less 1: %d, %d", x, e)
	}
	if x, e := Sub(api.Nat{1}, api.Nat{2}); len(x) != 0 || e != api.ErrLess {
		t.Errorf("1 less 2: %d, %d", x, e)
	}
	if x, e := Shl(api.Nat{1}, 64); !slices.Equal(x, api.Nat{0, 1}) || e != api.OK {
		t.Errorf("1 shifted by 64: %d, %d", x, e)
	}
	if x, e := Shl(api.Nat{1}, 65537); len(x) != 0 || e != api.ErrArg {
		t.Errorf("1 shifted by 65537: %d, %d", x, e)
	}
}

// P2.2: sums, against the slow ones.
func TestP2_2_Add(t *testing.T) {
	for _, a := range samples() {
		for _, b := range samples() {
			if x := Add(a, b); !slices.Equal(x, natOf(slowAdd(bitsOf(a), bitsOf(b)))) {
				t.Errorf("Add(%d, %d) = %d", a, b, x)
			}
		}
	}
}

// P2.2 and the errors: differences, against the slow ones; nothing beside the error.
func TestP2_2_Sub(t *testing.T) {
	for _, a := range samples() {
		for _, b := range samples() {
			want, wantE := api.Nat(nil), api.ErrLess
			if slowCmp(bitsOf(a), bitsOf(b)) >= 0 {
				want, wantE = natOf(slowSub(bitsOf(a), bitsOf(b))), api.OK
			}
			if x, e := Sub(a, b); !slices.Equal(x, want) || e != wantE {
				t.Errorf("Sub(%d, %d) = %d, %d", a, b, x, e)
			}
		}
	}
}

// P2.2: products, against the slow ones.
func TestP2_2_Mul(t *testing.T) {
	for _, a := range samples() {
		for _, b := range samples() {
			if x := Mul(a, b); !slices.Equal(x, natOf(slowMul(bitsOf(a), bitsOf(b)))) {
				t.Errorf("Mul(%d, %d) = %d", a, b, x)
			}
		}
	}
}

// P2.2: a carry that passes through all limbs of a long number.
func TestP2_2_Long(t *testing.T) {
	for _, n := range []int{1, 2, 3, 64, 500} {
		a := ones(n)
		power := append(make(api.Nat, n), 1)
		if x := Add(a, api.Nat{1}); !slices.Equal(x, power) {
			t.Errorf("%d limbs and 1: %d", n, x)
		}
		if x := Add(api.Nat{1}, a); !slices.Equal(x, power) {
			t.Errorf("1 and %d limbs: %d", n, x)
		}
		if x, e := Sub(power, api.Nat{1}); !slices.Equal(x, a) || e != api.OK {
			t.Errorf("%d limbs less 1: %d, %d", n+1, x, e)
		}
		if x, e := Sub(power, a); !slices.Equal(x, api.Nat{1}) || e != api.OK {
			t.Errorf("%d limbs less what is 1 less: %d, %d", n+1, x, e)
		}
		// (p - 1) times (p - 1) is p times (p - 2) plus 1
		square := append(make(api.Nat, n), ones(n)...)
		square[0], square[n] = 1, most-1
		if x := Mul(a, a); !slices.Equal(x, square) {
			t.Errorf("the square of %d limbs: %d", n, x)
		}
	}
}

// shifts are the numbers of bits around whole limbs, and the greatest ones.
func shifts() []int {
	return []int{0, 1, 4, 31, 32, 63, 64, 65, 127, 128, 129, 191, 192, 200, 320, 383, 384, 385, 1000, api.MaxShift - 1, api.MaxShift}
}

// P2.2: shifts to the left, against the slow ones.
func TestP2_2_Shl(t *testing.T) {
	for _, a := range samples() {
		for _, n := range shifts() {
			if x, e := Shl(a, n); !slices.Equal(x, natOf(slowShl(bitsOf(a), n))) || e != api.OK {
				t.Errorf("Shl(%d, %d) = %d, %d", a, n, x, e)
			}
		}
	}
}

// P2.2: shifts to the right, against the slow ones.
func TestP2_2_Shr(t *testing.T) {
	long := append(make(api.Nat, api.MaxShift/64), most, 5)
	for _, a := range append(samples(), long, ones(1100)) {
		for _, n := range shifts() {
			if x, e := Shr(a, n); !slices.Equal(x, natOf(slowShr(bitsOf(a), n))) || e != api.OK {
				t.Errorf("Shr(%d, %d) = %d, %d", a, n, x, e)
			}
		}
	}
}

// P2.2 and the errors: shifts out of range are refused, of 0 too, with nothing beside the error.
func TestP2_2_ShiftsRefused(t *testing.T) {
	for _, a := range samples() {
		for _, n := range []int{-1, -2, -63, -64, -65, -api.MaxShift, math.MinInt, api.MaxShift + 1, api.MaxShift + 64, 1 << 20, 1 << 32, math.MaxInt} {
			if x, e := Shl(a, n); len(x) != 0 || e != api.ErrArg {
				t.Errorf("Shl(%d, %d) = %d, %d", a, n, x, e)
			}
			if x, e := Shr(a, n); len(x) != 0 || e != api.ErrArg {
				t.Errorf("Shr(%d, %d) = %d, %d", a, n, x, e)
			}
		}
	}
}

// P2.3: sums and products commute, and what is neutral.
func TestP2_3_Commutative(t *testing.T) {
	for _, a := range samples() {
		for _, b := range samples() {
			if !slices.Equal(Add(a, b), Add(b, a)) {
				t.Errorf("Add(%d, %d) = %d; the other way %d", a, b, Add(a, b), Add(b, a))
			}
			if !slices.Equal(Mul(a, b), Mul(b, a)) {
				t.Errorf("Mul(%d, %d) = %d; the other way %d", a, b, Mul(a, b), Mul(b, a))
			}
		}
		if x := Add(a, nil); !slices.Equal(x, a) {
			t.Errorf("Add(%d, 0) = %d", a, x)
		}
		if x := Mul(a, Of(1)); !slices.Equal(x, a) {
			t.Errorf("Mul(%d, 1) = %d", a, x)
		}
		if x := Mul(a, nil); len(x) != 0 {
			t.Errorf("Mul(%d, 0) = %d", a, x)
		}
	}
}

// P2.3: sums and products are associative, and products distribute over sums.
func TestP2_3_Ring(t *testing.T) {
	for _, a := range samples() {
		for _, b := range samples() {
			for _, c := range few() {
				if x, y := Add(Add(a, b), c), Add(a, Add(b, c)); !slices.Equal(x, y) {
					t.Errorf("%d + %d + %d: %d, %d", a, b, c, x, y)
				}
				if x, y := Mul(Mul(a, b), c), Mul(a, Mul(b, c)); !slices.Equal(x, y) {
					t.Errorf("%d * %d * %d: %d, %d", a, b, c, x, y)
				}
				if x, y := Mul(Add(a, b), c), Add(Mul(a, c), Mul(b, c)); !slices.Equal(x, y) {
					t.Errorf("(%d + %d) * %d: %d, %d", a, b, c, x, y)
				}
			}
		}
	}
}

// P2.4: two numbers are equal, or one of them is less, and a third number changes nothing of it.
func TestP2_4_Order(t *testing.T) {
	for i, a := range samples() {
		for j, b := range samples() {
			n := Cmp(a, b)
			if n < -1 || n > 1 || n != -Cmp(b, a) || (n == 0) != (i == j) {
				t.Errorf("Cmp(%d, %d) = %d, the other way %d", a, b, n, Cmp(b, a))
			}
			for _, c := range few() {
				if m := Cmp(Add(a, c), Add(b, c)); m != n {
					t.Errorf("%d and %d, each plus %d: %d, without it %d", a, b, c, m, n)
				}
				if m := Cmp(Mul(a, c), Mul(b, c)); m != n && !Zero(c) {
					t.Errorf("%d and %d, each times %d: %d, without it %d", a, b, c, m, n)
				}
			}
		}
	}
}

// P2.5: subtraction undoes addition, and addition undoes subtraction.
func TestP2_5_Back(t *testing.T) {
	for _, a := range samples() {
		for _, b := range samples() {
			if x, e := Sub(Add(a, b), b); !slices.Equal(x, a) || e != api.OK {
				t.Errorf("Add(%d, %d) less the second: %d, %d", a, b, x, e)
			}
			if x, e := Sub(Add(a, b), a); !slices.Equal(x, b) || e != api.OK {
				t.Errorf("Add(%d, %d) less the first: %d, %d", a, b, x, e)
			}
			x, e := Sub(a, b)
			if (e != api.OK) != (Cmp(b, a) > 0) {
				t.Errorf("Sub(%d, %d): error %d", a, b, e)
			}
			if e == api.OK && !slices.Equal(Add(x, b), a) {
				t.Errorf("Sub(%d, %d) plus the second: %d", a, b, Add(x, b))
			}
		}
	}
}

// P2.6: what shifts have to do with products, with each other and with lengths.
func TestP2_6_Shifts(t *testing.T) {
	for _, n := range shifts() {
		power := append(make(api.Nat, n/64), 1<<(n%64))
		for _, a := range samples() {
			left := shift(t, Shl, a, n)
			if !slices.Equal(left, Mul(a, power)) {
				t.Errorf("Shl(%d, %d) = %d", a, n, left)
			}
			if back := shift(t, Shr, left, n); !slices.Equal(back, a) {
				t.Errorf("Shr of Shl(%d, %d) = %d", a, n, back)
			}
			if len(a) > 0 && Len(left) != Len(a)+n || len(a) == 0 && Len(left) != 0 {
				t.Errorf("Shl(%d, %d) has %d bits", a, n, Len(left))
			}
			cleared := bitsOf(a)
			clear(cleared[:min(n, len(cleared))])
			right := shift(t, Shr, a, n)
			if x := shift(t, Shl, right, n); !slices.Equal(x, natOf(cut(cleared))) {
				t.Errorf("Shl of Shr(%d, %d) = %d", a, n, x)
			}
		}
	}
}

// results are what every call returns for two numbers and a shift, each as a list of limbs.
func results(a, b api.Nat, n int) []api.Nat {
	word, small := Small(a)
	diff, e1 := Sub(a, b)
	left, e2 := Shl(a, n)
	right, e3 := Shr(a, n)
	return []api.Nat{
		Trim(a), {word, flag(small)}, {flag(Zero(a))}, {uint64(Cmp(a, b) + 1)}, {uint64(Len(a))}, {flag(Bit(a, n))},
		Add(a, b), diff, {uint64(e1)}, Mul(a, b), left, {uint64(e2)}, right, {uint64(e3)},
	}
}

func flag(b bool) uint64 {
	if b {
		return 1
	}
	return 0
}

// numbers are the results of the calls that return natural numbers.
func numbers(a, b api.Nat, n int) map[string]api.Nat {
	diff, _ := Sub(a, b)
	left, _ := Shl(a, n)
	right, _ := Shr(a, n)
	word, _ := Small(a)
	return map[string]api.Nat{"Trim": Trim(a), "Of": Of(word), "Add": Add(a, b), "Sub": diff, "Mul": Mul(a, b), "Shl": left, "Shr": right}
}

// P2.7: trailing zero limbs of arguments change nothing, and no result has any.
func TestP2_7_TrailingZeros(t *testing.T) {
	for _, a := range samples() {
		for _, b := range samples() {
			for _, n := range []int{0, 3, 64, 130, 500} {
				want := results(a, b, n)
				for _, p := range append(padded(a), a) {
					for _, q := range append(padded(b), b) {
						if got := results(p, q, n); !slices.EqualFunc(got, want, slices.Equal[api.Nat]) {
							t.Fatalf("%d, %d and %d: %d, without trailing zeros %d", p, q, n, got, want)
						}
						for call, x := range numbers(p, q, n) {
							if len(x) > 0 && x[len(x)-1] == 0 {
								t.Errorf("%s of %d, %d and %d: %d", call, p, q, n, x)
							}
						}
					}
				}
			}
		}
	}
}

// roomy is a with zero limbs at the end and with spare capacity, so that what is written behind it is seen.
func roomy(a api.Nat, zeros int) api.Nat {
	x := make(api.Nat, len(a)+zeros, len(a)+zeros+4)
	copy(x, a)
	whole := x[:cap(x)]
	for i := len(x); i < len(whole); i++ {
		whole[i] = 77
	}
	return x
}

// P2.8 and R3: results may be overwritten; neither arguments nor results of other calls change with them.
func TestP2_8_Independence(t *testing.T) {
	for _, a := range samples() {
		for _, b := range few() {
			for _, n := range []int{0, 1, 64} {
				for zeros := range 3 {
					overwrite(t, roomy(a, zeros), roomy(b, zeros), n)
				}
			}
		}
	}
}

func overwrite(t *testing.T, p, q api.Nat, n int) {
	t.Helper()
	wantP, wantQ := slices.Clone(p[:cap(p)]), slices.Clone(q[:cap(q)])
	want := numbers(p, q, n)
	for call, x := range numbers(p, q, n) {
		x = x[:cap(x)]
		for i := range x {
			x[i] = ^x[i]
		}
		if !slices.Equal(p[:cap(p)], wantP) || !slices.Equal(q[:cap(q)], wantQ) {
			t.Fatalf("%s: the arguments are %d, %d, and were %d, %d", call, p[:cap(p)], q[:cap(q)], wantP, wantQ)
		}
	}
	for call, x := range numbers(p, q, n) {
		if !slices.Equal(x, want[call]) {
			t.Errorf("%s of %d, %d and %d: %d, and first %d", call, p, q, n, x, want[call])
		}
	}
}

// P2.8: one number may be both arguments.
func TestP2_8_Twice(t *testing.T) {
	for _, a := range samples() {
		c := slices.Clone(a)
		if !slices.Equal(Add(c, c), Add(a, slices.Clone(a))) || !slices.Equal(Mul(c, c), Mul(a, slices.Clone(a))) || !slices.Equal(c, a) {
			t.Errorf("%d, twice: %d, %d", a, Add(c, c), Mul(c, c))
		}
		if x, e := Sub(c, c); len(x) != 0 || e != api.OK || Cmp(c, c) != 0 {
			t.Errorf("%d less itself: %d, %d", a, x, e)
		}
	}
}
