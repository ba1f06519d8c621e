package dec

import (
	"cmp"
	"slices"
	"strconv"
	"strings"
	"testing"

	"tombola/api"
	"tombola/nat"
	"tombola/quo"
)

const most = 1<<64 - 1

// scramble makes words without pattern, always the same ones.
func scramble(x *uint64) uint64 {
	*x ^= *x << 13
	*x ^= *x >> 7
	*x ^= *x << 17
	return *x
}

func scrambled(n int, x *uint64) api.Nat {
	a := make(api.Nat, n)
	for i := range a {
		a[i] = scramble(x)
	}
	return a
}

// samples are numbers at the edges of limbs and of groups of digits, and some without pattern.
func samples() []api.Nat {
	l := []api.Nat{nil, {1}, {9}, {10}, {most}, {0, 1}, {1, 1}, {most, most}, {0, 0, 1}, {most, 0, 7}}
	for _, n := range []int{1, 2, 18, 19, 20, 37, 38, 39, 57, 100, 1215, 1216, 1217, 1235, 2431, 2432, 2433, 5000} {
		ten := power(n)
		less, _ := nat.Sub(ten, nat.Of(1))
		l = append(l, less, ten, nat.Add(ten, nat.Of(1)), nat.Mul(ten, nat.Of(7)))
	}
	for _, n := range []int{4031, 4032, 4033, 4039, 4040, 8064, 8065} { // around 2^4032, from which on more than one array is needed
		two, _ := nat.Shl(nat.Of(1), n)
		less, _ := nat.Sub(two, nat.Of(1))
		l = append(l, less, two)
	}
	x := uint64(88172645463325252)
	for _, n := range []int{1, 1, 1, 2, 2, 3, 4, 5, 20, 62, 63, 64, 65, 126, 127, 128, 200} {
		l = append(l, scrambled(n, &x))
	}
	return l
}

// power is ten to the power of n, made by multiplication alone.
func power(n int) api.Nat {
	a := nat.Of(1)
	for range n {
		a = nat.Mul(a, nat.Of(10))
	}
	return a
}

// padded are spellings of a with zero limbs at the end.
func padded(a api.Nat) []api.Nat {
	return []api.Nat{append(slices.Clone(a), 0), append(slices.Clone(a), 0, 0, 0)}
}

// slowDigits doubles the digits bit after bit, and never divides.
func slowDigits(a api.Nat) string {
	digits := []byte{0} // the lowest one first
	for i := nat.Len(a) - 1; i >= 0; i-- {
		carry := byte(0)
		if nat.Bit(a, i) {
			carry = 1
		}
		for j, d := range digits {
			d = d*2 + carry
			digits[j], carry = d%10, d/10
		}
		if carry > 0 {
			digits = append(digits, carry)
		}
	}
	for i := range digits {
		digits[i] += '0'
	}
	slices.Reverse(digits)
	return string(digits)
}

// slowRead takes digit after digit.
func slowRead(s string) api.Nat {
	a := nat.Of(0)
	for _, c := range []byte(s) {
		a = nat.Add(nat.Mul(a, nat.Of(10)), nat.Of(uint64(c-'0')))
	}
	return a
}

// texts are the digits of some numbers, and among them as many as are read at most.
func texts() []string {
	l := []string{
		"0", "1", "9", "10", "11", "100", "18446744073709551615", "18446744073709551616", "340282366920938463463374607431768211456",
		"123456789012345678901234567890", "90000000000000000000000000000000000000009",
	}
	for _, n := range []int{17, 18, 19, 37, 38, 56, 57, 1215, 1216, 2432, MaxDigits - 1} {
		l = append(l, "1"+strings.Repeat("0", n), strings.Repeat("9", n), strings.Repeat("1", n+1), "5"+strings.Repeat("0", n-1)+"7")
	}
	return append(l, strings.Repeat("9", MaxDigits), "1"+strings.Repeat("9876543210", MaxDigits/10-1))
}

// read is for texts that are not refused.
func read(t *testing.T, s string) api.Nat {
	t.Helper()
	a, e := Read(s)
	if e != api.OK {
		t.Fatalf("Read(%.60q): error %d", s, e)
	}
	return a
}

func equal(t *testing.T, what string, got, want api.Nat) {
	t.Helper()
	if !slices.Equal(got, want) {
		t.Fatalf("%s: %v, want %v", what, got, want)
	}
}

func same(t *testing.T, what, got, want string) {
	t.Helper()
	if got != want {
		t.Fatalf("%s: %q, want %q", what, got, want)
	}
}

// P4.1: Show, Read and Many: the chapter's examples, and the edges of a limb and of a group of digits.
func TestP4_1_Examples(t *testing.T) {
	for _, c := range []struct {
		a api.Nat
		s string
	}{
		{nil, "0"},
		{api.Nat{1}, "1"},
		{api.Nat{9}, "9"},
		{api.Nat{10}, "10"},
		{api.Nat{999}, "999"},
		{api.Nat{1000000000000000000}, "1000000000000000000"},
		{api.Nat{9999999999999999999}, "9999999999999999999"},
		{api.Nat{10000000000000000000}, "10000000000000000000"},
		{api.Nat{most}, "18446744073709551615"},
		{api.Nat{0, 1}, "18446744073709551616"},
		{api.Nat{1, 1}, "18446744073709551617"},
		{api.Nat{7766279631452241920, 5}, "100000000000000000000"},
		{api.Nat{0, 0, 1}, "340282366920938463463374607431768211456"},
		{power(40), "1" + strings.Repeat("0", 40)},
	} {
		same(t, "Show", Show(c.a), c.s)
		equal(t, "Read", read(t, c.s), c.a)
		if got := Many(c.a); got != len(c.s) {
			t.Errorf("Many(%s) = %d", c.s, got)
		}
	}
}

// P4.1: Show and Many do as the digits doubled bit after bit.
func TestP4_1_Show(t *testing.T) {
	for _, a := range samples() {
		want := slowDigits(a)
		same(t, "Show", Show(a), want)
		if got := Many(a); got != len(want) {
			t.Errorf("Many(%s) = %d", want, got)
		}
	}
}

// P4.1: Read does as digit after digit.
func TestP4_1_Read(t *testing.T) {
	for _, s := range texts() {
		equal(t, "Read", read(t, s), slowRead(s))
	}
}

// P4.1: Show and Many take numbers of any length, also longer ones than are read, with digits 0 amid the others.
func TestP4_1_Long(t *testing.T) {
	for _, n := range []int{MaxDigits, MaxDigits + 1, 60000} {
		ten, e := quo.Pow(nat.Of(10), n)
		if e != api.OK {
			t.Fatalf("Pow: error %d", e)
		}
		a := nat.Add(nat.Mul(ten, nat.Of(305)), nat.Of(42))
		same(t, "Show", Show(a), "305"+strings.Repeat("0", n-2)+"42")
		if got := Many(a); got != n+3 {
			t.Errorf("Many = %d, want %d", got, n+3)
		}
	}
}

// P4.1: Zero limbs at the end of an argument are ignored.
func TestP4_1_Padded(t *testing.T) {
	for _, a := range samples() {
		want := Show(a)
		for _, p := range padded(a) {
			same(t, "Show", Show(p), want)
			if got := Many(p); got != len(want) {
				t.Errorf("Many(%s) = %d", want, got)
			}
		}
	}
	many := make(api.Nat, 200)
	same(t, "Show", Show(many), "0")
	many[0] = 12
	same(t, "Show", Show(many), "12")
}

// P4.1: No call changes its argument, or the memory behind its end, and a result shares none with anything.
func TestP4_1_Independent(t *testing.T) {
	for _, a := range samples() {
		room := append(slices.Clone(a), 5, 6, 7)
		arg := room[:len(a)]
		kept := slices.Clone(room)
		Show(arg)
		Many(arg)
		equal(t, "argument", room, kept)
	}
	for _, s := range texts() {
		first, second := read(t, s), read(t, s)
		kept := slices.Clone(second)
		for i := range first[:cap(first)] {
			first[:cap(first)][i] = 77
		}
		equal(t, "second result", second, kept)
		equal(t, "third result", read(t, s), kept)
	}
}

// P4.2: Read of Show is the number, if it has no more than MaxDigits digits.
func TestP4_2_ReadOfShow(t *testing.T) {
	for _, a := range samples() {
		equal(t, "Read", read(t, Show(a)), a)
	}
	x := uint64(2463534242)
	for n := range 60 {
		a := scrambled(n, &x)
		equal(t, "Read", read(t, Show(a)), a)
	}
	greatest, _ := nat.Sub(tenTo(t, MaxDigits), nat.Of(1))
	equal(t, "Read", read(t, Show(greatest)), greatest)
	if a, e := Read(Show(tenTo(t, MaxDigits))); a != nil || e != api.ErrLong {
		t.Errorf("Read(Show(10^MaxDigits)) = %v, %d, want ErrLong", a, e)
	}
}

func tenTo(t *testing.T, n int) api.Nat {
	t.Helper()
	ten, e := quo.Pow(nat.Of(10), n)
	if e != api.OK {
		t.Fatalf("Pow: error %d", e)
	}
	return ten
}

// P4.2: Show of Read are the digits.
func TestP4_2_ShowOfRead(t *testing.T) {
	for _, s := range texts() {
		same(t, "Show", Show(read(t, s)), s)
	}
	x := uint64(362436069)
	for n := range 100 {
		digits := []byte{'1' + byte(scramble(&x)%9)}
		for range n {
			digits = append(digits, '0'+byte(scramble(&x)%10))
		}
		same(t, "Show", Show(read(t, string(digits))), string(digits))
	}
}

// P4.3: A digit more multiplies by ten and adds the digit, unless the number is 0; a digit less divides by ten.
func TestP4_3_OneMoreDigit(t *testing.T) {
	for _, a := range samples() {
		if nat.Zero(a) {
			continue
		}
		s := Show(a)
		for d := range uint64(10) {
			more := nat.Add(nat.Mul(a, nat.Of(10)), nat.Of(d))
			longer := s + string(rune('0'+d))
			same(t, "Show", Show(more), longer)
			equal(t, "Read", read(t, longer), more)
			if Many(more) != Many(a)+1 {
				t.Errorf("Many(%s) = %d", longer, Many(more))
			}
		}
	}
	for _, s := range texts() {
		if len(s) == 1 {
			continue
		}
		whole := read(t, s)
		tenth, digit, _ := quo.Div(whole, nat.Of(10))
		equal(t, "Read", read(t, s[:len(s)-1]), tenth)
		same(t, "Show", Show(tenth), s[:len(s)-1])
		same(t, "Show", Show(digit), s[len(s)-1:])
	}
}

// P4.4: Of two numbers the one with more digits is the greater one, and else their texts are ordered as they are.
func TestP4_4_Order(t *testing.T) {
	l := samples()
	shown := make([]string, len(l))
	for i, a := range l {
		shown[i] = Show(a)
	}
	for i, a := range l {
		for j, b := range l {
			want := cmp.Or(cmp.Compare(Many(a), Many(b)), strings.Compare(shown[i], shown[j]))
			if got := nat.Cmp(a, b); got != want {
				t.Fatalf("%s and %s: %d, want %d", shown[i], shown[j], got, want)
			}
		}
	}
	for n := range 300 {
		a, b := read(t, strconv.Itoa(n)), read(t, strconv.Itoa(n+1))
		if nat.Cmp(a, b) != -1 {
			t.Errorf("%d is not less than the next one", n)
		}
	}
}

// P4.5: Ten to the power of Many less 1 is at most the number, and ten to the power of Many is greater.
func TestP4_5_Many(t *testing.T) {
	for _, a := range samples() {
		if nat.Zero(a) {
			continue
		}
		n := Many(a)
		if nat.Cmp(tenTo(t, n-1), a) > 0 || nat.Cmp(tenTo(t, n), a) <= 0 {
			t.Errorf("Many(%s) = %d", Show(a), n)
		}
	}
	if Many(nil) != 1 || Many(api.Nat{0, 0}) != 1 || Many(api.Nat{999}) != 3 || Many(api.Nat{1000}) != 4 {
		t.Errorf("Many: %d, %d, %d, %d", Many(nil), Many(api.Nat{0, 0}), Many(api.Nat{999}), Many(api.Nat{1000}))
	}
}

// P4.6: A 64-bit number has the digits that come of taking the remainder by ten again and again.
func TestP4_6_Small(t *testing.T) {
	words := []uint64{most, most - 1, 1 << 63, 1<<63 - 1, 1 << 32, 1<<32 - 1}
	for n := range uint64(1200) {
		words = append(words, n)
	}
	for ten := uint64(1); ten < most/10; ten *= 10 {
		words = append(words, ten*10-1, ten*10, ten*10+1)
	}
	x := uint64(521288629)
	for range 500 {
		w := scramble(&x)
		words = append(words, w, w>>(w%64))
	}
	for _, w := range words {
		want := remainders(w)
		same(t, "Show", Show(nat.Of(w)), want)
		equal(t, "Read", read(t, want), nat.Of(w))
		if got := Many(nat.Of(w)); got != len(want) {
			t.Errorf("Many(%s) = %d", want, got)
		}
	}
}

func remainders(w uint64) string {
	s := string(rune('0' + w%10))
	for w /= 10; w > 0; w /= 10 {
		s = string(rune('0'+w%10)) + s
	}
	return s
}

// P4.7: Read refuses what are no digits of a number: the chapter's examples, and each error ahead of the next one.
func TestP4_7_Errors(t *testing.T) {
	long := strings.Repeat("1", MaxDigits+1)
	for _, c := range []struct {
		s    string
		want api.Errno
	}{
		{"", api.ErrShort},
		{"007", api.ErrForm},
		{"00", api.ErrForm},
		{"01", api.ErrForm},
		{"+5", api.ErrForm},
		{"-5", api.ErrForm},
		{"-0", api.ErrForm},
		{"-", api.ErrForm},
		{"+", api.ErrForm},
		{"1a", api.ErrForm},
		{"a1", api.ErrForm},
		{"1a1", api.ErrForm},
		{"0x1", api.ErrForm},
		{"1e3", api.ErrForm},
		{"1.0", api.ErrForm},
		{"1_000", api.ErrForm},
		{" 1", api.ErrForm},
		{"1 ", api.ErrForm},
		{" ", api.ErrForm},
		{"1\n", api.ErrForm},
		{"1\x00", api.ErrForm},
		{"\u0661", api.ErrForm}, // a digit, but none of the bytes 0 to 9
		{"1\xff", api.ErrForm},
		{"0a", api.ErrForm},
		{long, api.ErrLong},
		{long + long, api.ErrLong},
		{long[1:] + "a", api.ErrForm},
		{long + " ", api.ErrForm},
		{" " + long, api.ErrForm},
		{"0" + long, api.ErrForm},
		{strings.Repeat("0", MaxDigits+1), api.ErrForm},
	} {
		if a, e := Read(c.s); a != nil || e != c.want {
			t.Errorf("Read(%.30q) = %v, %d, want error %d", c.s, a, e, c.want)
		}
	}
}

// P4.7: Every byte but the ten digits is refused, wherever it stands, and a 0 is, where another digit follows.
func TestP4_7_EveryByte(t *testing.T) {
	for c := range 256 {
		b := string([]byte{byte(c)})
		digit := c >= '0' && c <= '9'
		for _, s := range []string{b, "1" + b, b + "1", "1" + b + "1", strings.Repeat("1", 30) + b, b + strings.Repeat("1", 30)} {
			want := api.OK
			if !digit || c == '0' && s[0] == '0' && len(s) > 1 {
				want = api.ErrForm
			}
			if _, e := Read(s); e != want {
				t.Errorf("Read(%q): error %d, want %d", s, e, want)
			}
		}
	}
}

// P4.7: As many digits as MaxDigits are read.
func TestP4_7_MaxDigits(t *testing.T) {
	if MaxDigits != 20000 {
		t.Errorf("MaxDigits = %d", MaxDigits)
	}
	for _, n := range []int{MaxDigits - 1, MaxDigits} {
		s := strings.Repeat("7", n)
		same(t, "Show", Show(read(t, s)), s)
	}
}
