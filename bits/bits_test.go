package bits

import (
	"cmp"
	"iter"
	"math"
	"slices"
	"strconv"
	"strings"
	"testing"
	"unsafe"

	"tombola/api"
)

// scramble makes words without pattern, always the same ones.
func scramble(x *uint64) uint64 {
	*x ^= *x << 13
	*x ^= *x >> 7
	*x ^= *x << 17
	return *x
}

// spelt is n, which has no more bits, in so many of them.
func spelt(n uint64, width int) string {
	if width == 0 {
		return ""
	}
	s := strconv.FormatUint(n, 2)
	return strings.Repeat("0", width-len(s)) + s
}

// upTo are all bit strings of at most so many bits, in increasing order.
func upTo(width int) []string {
	var l []string
	for w := range width + 1 {
		for n := range uint64(1) << w {
			l = append(l, spelt(n, w))
		}
	}
	return l
}

// long are bit strings at the edges of a word and of MaxBits, and some without pattern.
func long() []string {
	var l []string
	x := uint64(88172645463325252)
	for _, n := range []int{63, 64, 65, 127, 128, 1000, api.MaxBits - 1, api.MaxBits} {
		mixed := make([]byte, n)
		for i := range mixed {
			mixed[i] = '0' + byte(scramble(&x)>>40&1)
		}
		zeros, ones := strings.Repeat("0", n-1), strings.Repeat("1", n-1)
		l = append(l, zeros+"0", zeros+"1", "1"+zeros, "0"+ones, ones+"0", ones+"1", string(mixed))
	}
	return l
}

// others are texts that are no bit strings.
func others() []string {
	l := []string{
		"2", "/", " ", "0 1", " 01", "01 ", "01\n", "#01", "012", "210", "0b1", "-1", "+1", "x", "\x00", "\x01", "1\x00", "0\xb0", "\xff",
		"\u0661", "\uff11", "0\u0660", "1\ufeff", strings.Repeat("2", api.MaxBits), strings.Repeat("0", 64) + "a",
		strings.Repeat("0", api.MaxBits+1), strings.Repeat("1", api.MaxBits+1), strings.Repeat("01", api.MaxSource),
	}
	zeros := strings.Repeat("0", api.MaxBits)
	for _, at := range []int{0, 1, 511, 512, api.MaxBits - 2, api.MaxBits - 1} {
		for _, c := range []string{"2", "/", "\xff"} {
			l = append(l, zeros[:at]+c+zeros[at+1:])
		}
	}
	for c := range 256 {
		if c != '0' && c != '1' {
			l = append(l, string([]byte{byte(c)}), string([]byte{'1', byte(c), '0'}))
		}
	}
	return l
}

// far are numbers that no index and no length can be.
func far() []int {
	return []int{math.MinInt, math.MinInt + 1, -1 << 32, -api.MaxBits, 1 << 32, math.MaxInt - 1, math.MaxInt}
}

// slowCmp goes byte by byte.
func slowCmp(a, b string) int {
	if len(a) != len(b) {
		return cmp.Compare(len(a), len(b))
	}
	for i := range len(a) {
		if a[i] != b[i] {
			return cmp.Compare(a[i], b[i])
		}
	}
	return 0
}

// Each of these holds what a call answers against what it should, nothing standing beside an error.

func cutIs(t *testing.T, s string, at, n int, want string, wantE api.Errno) {
	t.Helper()
	if cut, e := Cut(s, at, n); cut != want || e != wantE {
		t.Fatalf("Cut(%q, %d, %d) = %q, error %d; want %q, error %d", s, at, n, cut, e, want, wantE)
	}
}

func clearIs(t *testing.T, s string, at, n int, want string, wantE api.Errno) {
	t.Helper()
	if cleared, e := Clear(s, at, n); cleared != want || e != wantE {
		t.Fatalf("Clear(%q, %d, %d) = %q, error %d; want %q, error %d", s, at, n, cleared, e, want, wantE)
	}
}

func downIs(t *testing.T, s string, at int, want string, wantE api.Errno) {
	t.Helper()
	if down, e := Down(s, at); down != want || e != wantE {
		t.Fatalf("Down(%q, %d) = %q, error %d; want %q, error %d", s, at, down, e, want, wantE)
	}
}

func ofIs(t *testing.T, n uint64, width int, want string, wantE api.Errno) {
	t.Helper()
	if s, e := Of(n, width); s != want || e != wantE {
		t.Fatalf("Of(%d, %d) = %q, error %d; want %q, error %d", n, width, s, e, want, wantE)
	}
}

// fine is for calls that are not refused: ok := fine(t), and then ok(Cut(s, at, n)).
func fine(t *testing.T) func(s string, e api.Errno) string {
	return func(s string, e api.Errno) string {
		t.Helper()
		if e != api.OK {
			t.Fatalf("error %d", e)
		}
		return s
	}
}

// The chapter's examples.
func TestExamples(t *testing.T) {
	if Cmp("1", "00") != -1 || Cmp("01", "10") != -1 {
		t.Errorf("Cmp = %d, %d", Cmp("1", "00"), Cmp("01", "10"))
	}
	for _, c := range [][2]string{{"", "0"}, {"011", "100"}, {"11", "000"}} {
		if s, ok := Next(c[0]); s != c[1] || !ok {
			t.Errorf("Next(%q) = %q, %t", c[0], s, ok)
		}
	}
	if l := slices.Collect(All(2)); !slices.Equal(l, []string{"00", "01", "10", "11"}) {
		t.Errorf("All(2): %q", l)
	}
	cutIs(t, "10110", 1, 2, "110", api.OK)
	clearIs(t, "10110", 2, 2, "10000", api.OK)
	downIs(t, "10110", 2, "10011", api.OK)
	downIs(t, "10110", 1, "", api.ErrArg)
	if n, e := Number("0101"); n != 5 || e != api.OK {
		t.Errorf("Number = %d, error %d", n, e)
	}
	ofIs(t, 5, 4, "0101", api.OK)
	ofIs(t, 5, 2, "", api.ErrArg)
}

// P7.1: the bytes 0 and 1, at most MaxBits of them, and nothing else.
func TestP7_1_Is(t *testing.T) {
	for _, s := range append(upTo(8), long()...) {
		if !Is(s) {
			t.Errorf("Is(%q) = false", s)
		}
	}
	for _, s := range others() {
		if Is(s) {
			t.Errorf("Is(%q) = true", s)
		}
	}
}

// P7.1: comparisons of bit strings, against their places in a list whose order is known.
func TestP7_1_Cmp(t *testing.T) {
	l := upTo(7)
	for i, a := range l {
		for k, b := range l {
			if n := Cmp(a, b); n != cmp.Compare(i, k) {
				t.Fatalf("Cmp(%q, %q) = %d", a, b, n)
			}
		}
	}
}

// P7.1: long bit strings, and texts that are none, are compared by their lengths and bytes.
func TestP7_1_CmpOthers(t *testing.T) {
	for _, c := range []struct {
		a, b string
		want int
	}{
		{"", "2", -1}, {"zz", "000", -1}, {"000", "zz", 1}, {"a", "b", -1}, {"0a", "0b", -1}, {"0b", "0b", 0},
		{"\x00", "", 1}, {"\x00", "0", -1}, {"\x7f", "\x80", -1}, {"\xff", "1", 1}, {"\xff\x00", "\xfe\xff", 1},
		{"\u00e9", "0", 1}, {"\u00e9", "zz", 1}, {"\u00e9", "000", -1}, {"\uffff", "\U00010000", -1}, {"\xff", "\u00e9", -1},
		{strings.Repeat("1", api.MaxBits), strings.Repeat("0", api.MaxBits+1), -1},
		{strings.Repeat("1", api.MaxBits+1), strings.Repeat("0", api.MaxBits+1), 1},
		{strings.Repeat("0", api.MaxSource) + "1", strings.Repeat("0", api.MaxSource) + "1", 0},
	} {
		if n := Cmp(c.a, c.b); n != c.want {
			t.Errorf("Cmp(%q, %q) = %d", c.a, c.b, n)
		}
		if n := Cmp(c.b, c.a); n != -c.want {
			t.Errorf("Cmp(%q, %q) = %d", c.b, c.a, n)
		}
	}
	l := append(append(upTo(2), long()...), others()[:40]...)
	for _, a := range l {
		for _, b := range l {
			if n := Cmp(a, b); n != slowCmp(a, b) {
				t.Fatalf("Cmp(%q, %q) = %d", a, b, n)
			}
		}
	}
}

// P7.1: the number of at most 64 bits, the highest one first; zeros before it count as bits, but don't change it.
func TestP7_1_Number(t *testing.T) {
	if n, e := Number(""); n != 0 || e != api.OK {
		t.Errorf("Number of the empty string = %d, error %d", n, e)
	}
	for _, s := range append(upTo(10), long()...) {
		if s == "" || len(s) > 64 {
			continue
		}
		want, err := strconv.ParseUint(s, 2, 64)
		if err != nil {
			t.Fatal(err)
		}
		if n, e := Number(s); n != want || e != api.OK {
			t.Fatalf("Number(%q) = %d, error %d", s, n, e)
		}
	}
	if n, e := Number(strings.Repeat("1", 64)); n != math.MaxUint64 || e != api.OK {
		t.Errorf("Number of 64 ones = %d, error %d", n, e)
	}
}

// P7.1 and the errors: ErrForm for no bit string, ahead of ErrLong for more than 64 bits, even if all are 0.
func TestP7_1_NumberRefused(t *testing.T) {
	for _, s := range others() {
		if n, e := Number(s); n != 0 || e != api.ErrForm {
			t.Fatalf("Number(%q) = %d, error %d", s, n, e)
		}
	}
	for _, s := range long() {
		if len(s) <= 64 {
			continue
		}
		if n, e := Number(s); n != 0 || e != api.ErrLong {
			t.Fatalf("Number(%q) = %d, error %d", s, n, e)
		}
	}
}

// P7.1: a number as so many bits, with zeros before it.
func TestP7_1_Of(t *testing.T) {
	for width := range 11 {
		for n := range uint64(1) << width {
			ofIs(t, n, width, spelt(n, width), api.OK)
		}
	}
	x := uint64(88172645463325252)
	for width := 1; width <= 64; width++ {
		most := uint64(math.MaxUint64) >> (64 - width)
		for _, n := range []uint64{0, 1, most / 2, most/2 + 1, most - 1, most, scramble(&x) & most} {
			ofIs(t, n, width, spelt(n, width), api.OK)
		}
	}
	ofIs(t, 0, 0, "", api.OK)
	ofIs(t, math.MaxUint64, 64, strings.Repeat("1", 64), api.OK)
}

// P7.1 and the errors: no width below 0 or above 64, and none that is too small for the number.
func TestP7_1_OfRefused(t *testing.T) {
	for width := range 64 {
		for _, n := range []uint64{1 << width, 1<<width + 1, 1 << 63, math.MaxUint64} {
			ofIs(t, n, width, "", api.ErrArg)
		}
	}
	for _, width := range append(far(), -64, -2, -1, 65, 66, 128, api.MaxBits) {
		for _, n := range []uint64{0, 1, math.MaxUint64} {
			ofIs(t, n, width, "", api.ErrArg)
		}
	}
}

// P7.2: the successor, of the same length as long as there is a 0.
func TestP7_2_Next(t *testing.T) {
	l := upTo(9)
	for i, s := range l[1:] {
		if next, ok := Next(l[i]); next != s || !ok {
			t.Fatalf("Next(%q) = %q, %t", l[i], next, ok)
		}
	}
	ones := strings.Repeat("1", api.MaxBits)
	for _, at := range []int{0, 1, 63, 64, 511, api.MaxBits - 2, api.MaxBits - 1} {
		s := ones[:at] + "0" + ones[at+1:]
		want := ones[:at] + "1" + strings.Repeat("0", api.MaxBits-at-1)
		if next, ok := Next(s); next != want || !ok {
			t.Errorf("Next(%q) = %q, %t", s, next, ok)
		}
	}
	for _, n := range []int{63, 64, 65, api.MaxBits - 2, api.MaxBits - 1} {
		if next, ok := Next(ones[:n]); next != strings.Repeat("0", n+1) || !ok {
			t.Errorf("Next of %d ones = %q, %t", n, next, ok)
		}
	}
}

// P7.2: none has MaxBits 1s, nor what is no bit string, and nothing stands beside false.
func TestP7_2_NextRefused(t *testing.T) {
	for _, s := range append(others(), strings.Repeat("1", api.MaxBits)) {
		if next, ok := Next(s); next != "" || ok {
			t.Fatalf("Next(%q) = %q, %t", s, next, ok)
		}
	}
}

// P7.2: all bit strings of n bits, in increasing order.
func TestP7_2_All(t *testing.T) {
	for n := range api.MaxTree + 1 {
		var want []string
		for k := range uint64(1) << n {
			want = append(want, spelt(k, n))
		}
		if l := slices.Collect(All(n)); !slices.Equal(l, want) {
			t.Errorf("All(%d): %q", n, l)
		}
	}
}

// P7.2: none for any other number.
func TestP7_2_AllOutOfRange(t *testing.T) {
	for _, n := range append(far(), -12, -2, -1, 13, 14, 63, 64, api.MaxBits) {
		for s := range All(n) {
			t.Fatalf("All(%d): %q", n, s)
		}
	}
}

// P7.2: an iterator may be used again, after it was left too, and while it is in use.
func TestP7_2_AllAgain(t *testing.T) {
	all := All(3)
	want := slices.Collect(All(3))
	for k := 1; k <= len(want); k++ {
		first(all, k)
		if l := slices.Collect(all); !slices.Equal(l, want) {
			t.Fatalf("left after %d, then %q", k, l)
		}
	}
	var pairs []string
	for a := range all {
		for b := range all {
			pairs = append(pairs, a+b)
		}
	}
	if !slices.Equal(pairs, slices.Collect(All(6))) {
		t.Errorf("pairs %q", pairs)
	}
}

// first are the first k elements, k being at least 1: at the last one of them the iterator is told to end.
func first(all iter.Seq[string], k int) []string {
	var l []string
	all(func(s string) bool {
		l = append(l, s)
		return len(l) < k
	})
	return l
}

// slowPart has something else in place of each bit of a part; of n, as many count as there are behind at.
func slowPart(s string, at, n int, with string) string {
	changed := ""
	for i, c := range []byte(s) {
		if at <= i && i-at < n {
			changed += with
		} else {
			changed += string([]byte{c})
		}
	}
	return changed
}

// P7.3 and the errors: every part of short strings, and whatever is no part of them.
func TestP7_3_Parts(t *testing.T) {
	for _, s := range upTo(6) {
		for at := -3; at <= len(s)+3; at++ {
			for n := -3; n <= len(s)+3; n++ {
				cut, cleared, e := "", "", api.ErrArg
				if at >= 0 && n >= 1 && at+n <= len(s) {
					cut, cleared, e = slowPart(s, at, n, ""), slowPart(s, at, n, "0"), api.OK
				}
				cutIs(t, s, at, n, cut, e)
				clearIs(t, s, at, n, cleared, e)
			}
		}
	}
}

// P7.3: every 1 of short strings, and whatever is none of them.
func TestP7_3_Down(t *testing.T) {
	for _, s := range upTo(7) {
		for at := -3; at <= len(s)+3; at++ {
			if at < 0 || at >= len(s) || s[at] != '1' {
				downIs(t, s, at, "", api.ErrArg)
				continue
			}
			want := slowPart(slowPart(s, at+1, len(s), "1"), at, 1, "0")
			downIs(t, s, at, want, api.OK)
		}
	}
}

// P7.3: long strings.
func TestP7_3_Long(t *testing.T) {
	for _, s := range long() {
		for _, at := range []int{0, 1, len(s) / 2, len(s) - 2, len(s) - 1} {
			for _, n := range []int{1, 2, 8, len(s) - at - 1, len(s) - at} {
				cut, cleared, e := "", "", api.ErrArg
				if n >= 1 && at+n <= len(s) {
					cut, cleared, e = slowPart(s, at, n, ""), slowPart(s, at, n, "0"), api.OK
				}
				cutIs(t, s, at, n, cut, e)
				clearIs(t, s, at, n, cleared, e)
			}
			down, e := "", api.ErrArg
			if s[at] == '1' {
				down, e = slowPart(slowPart(s, at+1, len(s), "1"), at, 1, "0"), api.OK
			}
			downIs(t, s, at, down, e)
		}
	}
}

// P7.3 and the errors, R1: indices and lengths whose sum wraps round are refused like others.
func TestP7_3_Far(t *testing.T) {
	for _, s := range append(upTo(3), long()...) {
		for _, x := range far() {
			downIs(t, s, x, "", api.ErrArg)
			for _, y := range append(far(), -1, 0, 1, 2, len(s)-1, len(s), len(s)+1) {
				for _, p := range [][2]int{{x, y}, {y, x}} {
					cutIs(t, s, p[0], p[1], "", api.ErrArg)
					clearIs(t, s, p[0], p[1], "", api.ErrArg)
				}
			}
		}
	}
}

// P7.3 and the errors: what is no bit string is ErrForm, whatever the part.
func TestP7_3_Refused(t *testing.T) {
	for _, s := range others() {
		for _, at := range []int{math.MinInt, -1, 0, 1, len(s) - 1, len(s), math.MaxInt} {
			for _, n := range []int{math.MinInt, -1, 0, 1, 2, len(s), math.MaxInt} {
				cutIs(t, s, at, n, "", api.ErrForm)
				clearIs(t, s, at, n, "", api.ErrForm)
			}
			downIs(t, s, at, "", api.ErrForm)
		}
	}
}

// texts are some of each kind, of equal lengths too.
func texts() []string {
	return append(upTo(3), "2", "a", "\xff", "\u00e9", "zz", "0a", "a0", "a1", "1\xff", "000z", "z000",
		strings.Repeat("0", api.MaxBits), strings.Repeat("1", api.MaxBits), strings.Repeat("0", api.MaxBits+1), strings.Repeat("1", api.MaxBits+1))
}

// P7.4: exactly one of less, equal and greater, and equal only a text and itself.
func TestP7_4_One(t *testing.T) {
	for _, a := range texts() {
		for _, b := range texts() {
			n := Cmp(a, b)
			if n < -1 || n > 1 || Cmp(b, a) != -n || (n == 0) != (a == b) {
				t.Errorf("Cmp(%q, %q) = %d, and turned round %d", a, b, n, Cmp(b, a))
			}
		}
	}
}

// P7.4: the order is transitive.
func TestP7_4_Transitive(t *testing.T) {
	for _, a := range texts() {
		for _, b := range texts() {
			for _, c := range texts() {
				if Cmp(a, b) <= 0 && Cmp(b, c) <= 0 && Cmp(a, c) > 0 {
					t.Fatalf("%q, %q, %q", a, b, c)
				}
			}
		}
	}
}

// P7.4: the same bits behind texts of equal length don't change their order.
func TestP7_4_Appended(t *testing.T) {
	for _, a := range texts() {
		for _, b := range texts() {
			if len(a) != len(b) {
				continue
			}
			for _, s := range append(upTo(3), strings.Repeat("1", api.MaxBits)) {
				if Cmp(a+s, b+s) != Cmp(a, b) {
					t.Fatalf("%q, %q and %q", a, b, s)
				}
			}
		}
	}
}

// P7.5: Next is greater, and no greater than any string that is greater.
func TestP7_5_Least(t *testing.T) {
	l := append(upTo(6), long()...)
	for _, a := range l {
		next, ok := Next(a)
		if !ok {
			continue
		}
		if !Is(next) || Cmp(next, a) != 1 {
			t.Fatalf("Next(%q) = %q", a, next)
		}
		for _, b := range l {
			if Cmp(b, a) > 0 && Cmp(next, b) > 0 {
				t.Fatalf("Next(%q) = %q, and there is %q", a, next, b)
			}
		}
	}
}

// P7.5: starting from the empty string, Next reaches every string.
func TestP7_5_Every(t *testing.T) {
	s, ok := "", true
	for _, want := range upTo(13) {
		if s != want || !ok {
			t.Fatalf("%q, %t, want %q", s, ok, want)
		}
		s, ok = Next(s)
	}
}

// P7.6: 2 to the power of n strings, each the Next of the one before, starting with all 0s.
func TestP7_6_Next(t *testing.T) {
	for n := range api.MaxTree + 1 {
		want, ok, many := strings.Repeat("0", n), true, 0
		for s := range All(n) {
			if s != want || !ok {
				t.Fatalf("All(%d): %q, want %q", n, s, want)
			}
			want, ok = Next(s)
			many++
		}
		if many != 1<<n {
			t.Errorf("All(%d): %d strings", n, many)
		}
	}
}

// P7.6: left early, it has yielded the first ones, and none after them.
func TestP7_6_Left(t *testing.T) {
	for _, n := range []int{0, 1, 2, 5, api.MaxTree} {
		l := slices.Collect(All(n))
		for k := 1; k <= len(l); k += 1 + k/40 {
			if left := first(All(n), k); !slices.Equal(left, l[:k]) {
				t.Fatalf("All(%d), left after %d: %q", n, k, left)
			}
		}
		for k, want := range l {
			if k > 100 {
				break
			}
			last := ""
			for s := range All(n) {
				last = s
				if s == want {
					break
				}
			}
			if last != want {
				t.Fatalf("All(%d), left at %q: %q", n, want, last)
			}
		}
	}
}

// piece is a bit string and a part of it.
type piece struct {
	s     string
	at, n int
}

// pieces goes over bit strings and all their parts, of long strings over some of them.
func pieces(yield func(p piece) bool) {
	for _, s := range append(upTo(7), long()...) {
		step := 1 + len(s)/20
		for at := 0; at < len(s); at += step {
			for n := 1; at+n <= len(s); n += step {
				if !yield(piece{s, at, n}) {
					return
				}
			}
		}
	}
}

// ones goes over bit strings and their 1s.
func ones(yield func(s string, at int) bool) {
	for _, s := range append(upTo(9), long()...) {
		for at := range len(s) {
			if s[at] == '1' && !yield(s, at) {
				return
			}
		}
	}
}

// P7.7: Cut is less than s, and so is Clear if there was a 1 in the part; otherwise it is s.
func TestP7_7_Parts(t *testing.T) {
	ok := fine(t)
	for p := range pieces {
		if cut := ok(Cut(p.s, p.at, p.n)); !Is(cut) || Cmp(cut, p.s) != -1 {
			t.Fatalf("Cut of %v: %q", p, cut)
		}
		want := 0
		if strings.Contains(p.s[p.at:p.at+p.n], "1") {
			want = -1
		}
		if cleared := ok(Clear(p.s, p.at, p.n)); !Is(cleared) || Cmp(cleared, p.s) != want {
			t.Fatalf("Clear of %v: %q", p, cleared)
		}
	}
}

// P7.7: Down is less than s.
func TestP7_7_Down(t *testing.T) {
	ok := fine(t)
	for s, at := range ones {
		if down := ok(Down(s, at)); !Is(down) || Cmp(down, s) != -1 {
			t.Fatalf("Down(%q, %d) = %q", s, at, down)
		}
	}
}

// P7.8: Cut and Clear leave the bits at other positions as they were, in order.
func TestP7_8_Parts(t *testing.T) {
	ok := fine(t)
	for p := range pieces {
		before, after := p.s[:p.at], p.s[p.at+p.n:]
		if cut := ok(Cut(p.s, p.at, p.n)); cut != before+after {
			t.Fatalf("Cut of %v: %q", p, cut)
		}
		cleared := ok(Clear(p.s, p.at, p.n))
		if len(cleared) != len(p.s) || !strings.HasPrefix(cleared, before) || !strings.HasSuffix(cleared, after) {
			t.Fatalf("Clear of %v: %q", p, cleared)
		}
	}
}

// P7.8: Down leaves the bits before its index, and the rest is 1 less than a 1 followed by 0s.
func TestP7_8_Down(t *testing.T) {
	ok := fine(t)
	for s, at := range ones {
		down := ok(Down(s, at))
		if len(down) != len(s) || down[:at] != s[:at] {
			t.Fatalf("Down(%q, %d) = %q", s, at, down)
		}
		more := "1" + strings.Repeat("0", len(s)-at-1)
		if next, is := Next(down[at:]); next != more || !is { // also for more bits than a Number has
			t.Fatalf("Down(%q, %d) = %q", s, at, down)
		}
		if len(more) > 64 {
			continue
		}
		m, e := Number(down[at:])
		n, f := Number(more)
		if m != n-1 || e != api.OK || f != api.OK {
			t.Fatalf("Down(%q, %d) = %q", s, at, down)
		}
	}
}

// P7.9: Number of Of is the number, in every width that it fits.
func TestP7_9_Number(t *testing.T) {
	ok := fine(t)
	x := uint64(88172645463325252)
	for shift := range 64 {
		for _, n := range []uint64{0, 1 << shift, 1<<shift - 1, scramble(&x) >> shift} {
			for width := range 65 {
				if n>>width != 0 {
					continue
				}
				s := ok(Of(n, width))
				if back, e := Number(s); back != n || e != api.OK || len(s) != width || !Is(s) {
					t.Fatalf("%d in %d bits: %q, Number %d, error %d", n, width, s, back, e)
				}
			}
		}
	}
}

// P7.9: Of of Number, with the same width, is the string.
func TestP7_9_Of(t *testing.T) {
	ok := fine(t)
	for _, s := range append(upTo(10), long()...) {
		if len(s) > 64 {
			continue
		}
		n, e := Number(s)
		if back := ok(Of(n, len(s))); back != s || e != api.OK {
			t.Fatalf("%q: Number %d, error %d, Of %q", s, n, e, back)
		}
	}
}

// P7.9: of strings of equal length the greater one has the greater number.
func TestP7_9_Order(t *testing.T) {
	l := append(upTo(7), long()...)
	for _, a := range l {
		for _, b := range l {
			if len(a) != len(b) || len(a) > 64 {
				continue
			}
			m, e := Number(a)
			n, f := Number(b)
			if cmp.Compare(m, n) != Cmp(a, b) || e != api.OK || f != api.OK {
				t.Fatalf("%q: %d, %q: %d", a, m, b, n)
			}
		}
	}
}

// R3: a result shares no memory with the argument, not even where it is a piece of it, or equal to it.
func TestR3_NewMemory(t *testing.T) {
	ok := fine(t)
	apart := func(s, result string) {
		t.Helper()
		first := uintptr(unsafe.Pointer(unsafe.StringData(s)))
		start := uintptr(unsafe.Pointer(unsafe.StringData(result)))
		if result != "" && start < first+uintptr(len(s)) && first < start+uintptr(len(result)) {
			t.Errorf("%q shares memory with %q", result, s)
		}
	}
	for _, s := range []string{"10110", strings.Repeat("0", 100) + "1", strings.Repeat("1", 100) + "0"} {
		apart(s, ok(Cut(s, 0, 1)))
		apart(s, ok(Cut(s, 1, 2)))
		apart(s, ok(Cut(s, len(s)-1, 1)))
		apart(s, ok(Clear(s, 1, 1)))
		apart(s, ok(Clear(s, 0, len(s))))
		next, _ := Next(s)
		apart(s, next)
		apart(s, ok(Down(s, strings.Index(s, "1"))))
	}
}
