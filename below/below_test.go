package below

import (
	"math"
	"slices"
	"strconv"
	"strings"
	"testing"

	"tombola/api"
	"tombola/bits"
	"tombola/cursor"
	"tombola/nat"
	"tombola/rat"
)

// scramble makes words without pattern, always the same ones.
func scramble(x *uint64) uint64 {
	*x ^= *x << 13
	*x ^= *x >> 7
	*x ^= *x << 17
	return *x
}

// bounds are the small ones, those at each power of 2, and some without pattern, none of them 0.
func bounds() []uint64 {
	var l []uint64
	for m := range uint64(70) {
		l = append(l, m+1)
	}
	for n := 7; n < 64; n++ {
		l = append(l, 1<<n-1, 1<<n, 1<<n+1, 3<<(n-1))
	}
	x := uint64(88172645463325252)
	for n := range 64 {
		l = append(l, scramble(&x)>>n|1)
	}
	return append(l, math.MaxUint64-1, math.MaxUint64)
}

// few are bounds of which all short strings are gone over.
func few() []uint64 {
	return []uint64{1, 2, 3, 4, 5, 6, 7, 8, 9, 11, 12, 15, 16, 17, 31, 32, 33, 63, 64, 65, 100, 1000, 2049, 4095, 4096, 4097, math.MaxUint64}
}

// widthOf is the width as DOC.md says it: how long m - 1 is, written in binary.
func widthOf(m uint64) int {
	if m <= 1 {
		return 0
	}
	return len(strconv.FormatUint(m-1, 2))
}

// spelt is n, which has no more bits, in so many of them.
func spelt(n uint64, width int) string {
	if width == 0 {
		return ""
	}
	s := strconv.FormatUint(n, 2)
	return strings.Repeat("0", width-len(s)) + s
}

// upTo are all bit strings of at most so many bits.
func upTo(width int) []string {
	var l []string
	for w := range width + 1 {
		for n := range uint64(1) << w {
			l = append(l, spelt(n, w))
		}
	}
	return l
}

// made is a cursor of a bit string.
func made(t *testing.T, s string) *cursor.Cursor {
	t.Helper()
	c, e := cursor.New(s)
	if c == nil || e != api.OK {
		t.Fatalf("New(%q) = %v, error %d", s, c, e)
	}
	return c
}

// model is what a cursor should be: the bits that have been read, those that have not, and whether it is over.
type model struct {
	read, rest string
	over       bool
}

// draw goes by texts.
func (c *model) draw(m uint64) (uint64, bool) {
	width := widthOf(m)
	for m > 0 && !c.over {
		if width > len(c.rest) {
			c.over = true
			break
		}
		n, _ := strconv.ParseUint("0"+c.rest[:width], 2, 64)
		c.read, c.rest = c.read+c.rest[:width], c.rest[width:]
		if n < m {
			return n, true
		}
	}
	return 0, false
}

// stands holds all that a cursor tells of itself against what it should.
func stands(t *testing.T, c *cursor.Cursor, want model) {
	t.Helper()
	if c.At() != len(want.read) || c.Left() != len(want.rest) || c.Rest() != want.rest || c.Over() != want.over {
		t.Fatalf("at %d, left %d, rest %q, over %t; want %+v", c.At(), c.Left(), c.Rest(), c.Over(), want)
	}
}

// draws draws below m, and holds the answer and the cursor against what they should be.
func draws(t *testing.T, c *cursor.Cursor, want *model, m uint64) {
	t.Helper()
	was := *want
	wantN, wantIs := want.draw(m)
	if n, is := Draw(c, m); n != wantN || is != wantIs {
		t.Fatalf("Draw below %d at %+v = %d, %t; want %d, %t", m, was, n, is, wantN, wantIs)
	}
	stands(t, c, *want)
}

// costOf is the cost of a bound that is not 0.
func costOf(t *testing.T, m uint64) api.Rat {
	t.Helper()
	cost, e := Cost(m)
	if e != api.OK || !rat.May(cost) {
		t.Fatalf("Cost(%d) = %v, error %d", m, cost, e)
	}
	return cost
}

// number is n as a fraction.
func number(n uint64) api.Rat {
	return over(n, 1)
}

// over is a fraction of two words, the second one not 0.
func over(n, d uint64) api.Rat {
	a, _ := rat.Make(api.Int{Mag: nat.Of(n)}, nat.Of(d))
	return a
}

// power is 2 to the power of n as a fraction.
func power(n int) api.Rat {
	half, _ := rat.Half(n)
	a, _ := rat.Quo(number(1), half)
	return a
}

// fails is the probability that a try fails.
func fails(m uint64) api.Rat {
	half, _ := rat.Half(widthOf(m))
	return rat.Sub(number(1), rat.Mul(number(m), half))
}

// failures are up to so many consecutive numbers of m's width that are not below m, if there are any.
func failures(m uint64, tries int) []string {
	width := widthOf(m)
	most := uint64(1)<<width - 1 // of 64 bits: 0 - 1 wraps round to all ones
	l := []string{""}
	if m-1 == most {
		return l
	}
	x := uint64(88172645463325252)
	for i := range tries {
		n := []uint64{m, most, m + scramble(&x)%(most-m+1)}[i%3]
		l = append(l, l[i]+spelt(n, width))
	}
	return l
}

// some are numbers below m: the least ones, the greatest ones and those between.
func some(m uint64) []uint64 {
	x := m
	l := []uint64{0, 1, m / 2, m - 2, m - 1, scramble(&x) % m, scramble(&x) % m}
	return slices.DeleteFunc(l, func(n uint64) bool { return n >= m })
}

// The chapter's examples.
func TestExamples(t *testing.T) {
	for m, want := range map[uint64]int{1: 0, 2: 1, 6: 3, 8: 3, 9: 4} {
		if got := Width(m); got != want {
			t.Errorf("Width(%d) = %d; want %d", m, got, want)
		}
	}
	for _, x := range []struct {
		s  string
		m  uint64
		n  uint64
		is bool
		at int
	}{
		{"101", 6, 5, true, 3}, {"110", 6, 0, false, 3}, {"11011101", 6, 0, false, 6}, {"110001", 6, 1, true, 6}, {"", 1, 0, true, 0},
	} {
		c := made(t, x.s)
		if n, is := Draw(c, x.m); n != x.n || is != x.is || c.At() != x.at || c.Over() == x.is {
			t.Errorf("Draw(%q, %d) = %d, %t, at %d, over %t; want %d, %t, at %d", x.s, x.m, n, is, c.At(), c.Over(), x.n, x.is, x.at)
		}
	}
	for m, want := range map[uint64]string{6: "4", 8: "3", 3: "8/3", 1: "0"} {
		if got := rat.Show(costOf(t, m)); got != want {
			t.Errorf("Cost(%d) = %s; want %s", m, got, want)
		}
	}
	if _, e := Cost(0); e != api.ErrArg {
		t.Errorf("Cost(0): error %d", e)
	}
}

// P9.1: the width is the length of m - 1, and 0 for m = 0.
func TestP9_1_Width(t *testing.T) {
	if got := Width(0); got != 0 {
		t.Errorf("Width(0) = %d", got)
	}
	for _, m := range bounds() {
		if got := Width(m); got != widthOf(m) {
			t.Errorf("Width(%d) = %d; want %d", m, got, widthOf(m))
		}
	}
	for n := range 64 {
		if got := Width(1 << n); got != n {
			t.Errorf("Width of 2 to the power of %d = %d", n, got)
		}
		if got := Width(1<<n + 1); got != n+1 {
			t.Errorf("Width of 1 more than 2 to the power of %d = %d", n, got)
		}
	}
}

// P9.1: some costs, the greatest bounds among them.
func TestP9_1_Costs(t *testing.T) {
	for m, want := range map[uint64]string{
		2: "1", 4: "2", 5: "24/5", 7: "24/7", 9: "64/9", 10: "32/5", 12: "16/3", 1 << 20: "20", 1000000: "65536/3125",
		1 << 32: "32", 1<<32 + 1: "283467841536/4294967297", 3 << 62 >> 1: "84", 1 << 63: "63", 3 << 62: "256/3",
		1<<63 + 1: "1180591620717411303424/9223372036854775809", 1<<63 - 1: "83010348331692982272/1317624576693539401",
		math.MaxUint64 - 1: "590295810358705651712/9223372036854775807",
		math.MaxUint64:     "1180591620717411303424/18446744073709551615",
	} {
		if got := rat.Show(costOf(t, m)); got != want {
			t.Errorf("Cost(%d) = %s; want %s", m, got, want)
		}
	}
}

// P9.1: the cost is the width times 2 to the power of the width, over m.
func TestP9_1_Cost(t *testing.T) {
	for _, m := range bounds() {
		want := rat.Mul(number(uint64(widthOf(m))), power(widthOf(m)))
		if got := rat.Mul(costOf(t, m), number(m)); !rat.Same(got, want) {
			t.Errorf("Cost(%d) times %d = %s; want %s", m, m, rat.Show(got), rat.Show(want))
		}
	}
}

// P9.1, the error, and R1: beside ErrArg there is nothing.
func TestP9_1_CostOfNone(t *testing.T) {
	cost, e := Cost(0)
	if e != api.ErrArg || cost.Num.Neg || len(cost.Num.Mag) != 0 || len(cost.Den) != 0 {
		t.Errorf("Cost(0) = %v, error %d", cost, e)
	}
}

// P9.2: all bounds, after others, on all short strings; a draw begins where the one before it ended.
func TestP9_2_Short(t *testing.T) {
	before := []uint64{0, 1, 2, 3, 5, 6}
	for _, s := range upTo(9) {
		for m := range uint64(18) {
			for _, first := range before {
				c, want := made(t, s), model{rest: s}
				draws(t, c, &want, first)
				draws(t, c, &want, m)
				draws(t, c, &want, first)
				draws(t, c, &want, 1)
			}
		}
	}
}

// P9.2: long strings, drawn from until they are over.
func TestP9_2_Long(t *testing.T) {
	x := uint64(88172645463325252)
	for _, n := range []int{63, 64, 65, 127, 128, 129, 1000, api.MaxBits - 1, api.MaxBits} {
		mixed := make([]byte, n)
		for i := range mixed {
			mixed[i] = '0' + byte(scramble(&x)>>40&1)
		}
		for _, s := range []string{string(mixed), strings.Repeat("0", n), strings.Repeat("1", n)} {
			for _, m := range bounds() {
				c, want := made(t, s), model{rest: s}
				draws(t, c, &want, m)
				for !want.over {
					draws(t, c, &want, 2+m%61)
				}
				draws(t, c, &want, m)
			}
		}
	}
}

// P9.2: below 0 nothing is drawn and nothing is read: the cursor is as it was, new, in the middle, at the end, over.
func TestP9_2_Zero(t *testing.T) {
	for _, s := range []string{"", "0", "1", "10110", strings.Repeat("1", api.MaxBits)} {
		for _, at := range []int{0, len(s) / 2, len(s)} {
			c, want := made(t, s), model{s[:at], s[at:], false}
			for range at {
				c.Take(1)
			}
			for range 3 {
				if n, is := Draw(c, 0); n != 0 || is {
					t.Errorf("Draw below 0 = %d, %t", n, is)
				}
				stands(t, c, want)
			}
		}
	}
	c := made(t, "101")
	c.Take(4)
	draws(t, c, &model{"", "101", true}, 0)
}

// P9.2: below 1 there is 0, for no bits, unless the cursor is over.
func TestP9_2_One(t *testing.T) {
	for _, s := range []string{"", "0", "1", "10110", strings.Repeat("1", api.MaxBits)} {
		c, want := made(t, s), model{rest: s}
		for range 3 {
			if n, is := Draw(c, 1); n != 0 || !is {
				t.Errorf("Draw below 1 = %d, %t", n, is)
			}
			stands(t, c, want)
		}
		for !c.Over() {
			c.Take(1)
		}
		if n, is := Draw(c, 1); n != 0 || is || c.At() != len(s) {
			t.Errorf("Draw below 1 of what is over = %d, %t, at %d", n, is, c.At())
		}
	}
}

// P9.2: of a cursor that is over nothing is drawn, not even if enough bits are left.
func TestP9_2_Over(t *testing.T) {
	c := made(t, "000000")
	c.Take(7)
	for _, m := range append(bounds(), 0) {
		if n, is := Draw(c, m); n != 0 || is || c.At() != 0 || !c.Over() {
			t.Errorf("Draw below %d of what is over = %d, %t, at %d, over %t", m, n, is, c.At(), c.Over())
		}
	}
}

// P9.2 and R1: of nil nothing is drawn; a cursor that New did not make has the empty string.
func TestP9_2_NotMade(t *testing.T) {
	for _, m := range append(bounds(), 0) {
		if n, is := Draw(nil, m); n != 0 || is {
			t.Errorf("Draw of nil below %d = %d, %t", m, n, is)
		}
		c, want := new(cursor.Cursor), model{}
		draws(t, c, &want, 0)
		draws(t, c, &want, 1)
		draws(t, c, &want, m)
		draws(t, c, &want, 1)
	}
}

// ways is on how many strings of n bits one number below m should be drawn: summed over the tries, the ways in which
// those before it fail, times those to go on.
func ways(m uint64, n int) uint64 {
	width := widthOf(m)
	if width == 0 {
		return 1 << n
	}
	sum, failed := uint64(0), uint64(1)
	for at := width; at <= n; at += width {
		sum += failed << (n - at)
		failed *= 1<<width - m
	}
	return sum
}

// P9.3: among all strings of n bits each number is drawn on equally many, as many as the tries say.
func TestP9_3(t *testing.T) {
	for _, m := range few() {
		before := uint64(0)
		for n := range api.MaxTree + 1 {
			counts := make([]uint64, min(m, 1<<api.MaxTree))
			for s := range bits.All(n) {
				k, is := Draw(made(t, s), m)
				if k >= uint64(len(counts)) {
					t.Fatalf("Draw(%q, %d) = %d, %t", s, m, k, is)
				}
				if is {
					counts[k]++
				}
			}
			want := ways(m, n)
			for k, got := range counts {
				if got != want {
					t.Fatalf("below %d on %d bits: %d on %d strings; want %d", m, n, k, got, want)
				}
			}
			if want < 2*before || want > 0 && m*want > 1<<n { // P5: never less of them, and never more than 1/m
				t.Fatalf("below %d on %d bits: each number on %d strings; before on %d", m, n, want, before)
			}
			before = want
		}
	}
}

// P9.4: the number drawn is the first one of that width that is below m; as many bits are read as the tries have.
func TestP9_4(t *testing.T) {
	for _, m := range bounds() {
		width := widthOf(m)
		for _, failed := range failures(m, 7) {
			for _, n := range some(m) {
				for _, tail := range []string{"", "0", "1", spelt(0, width), spelt(m-1, width)} {
					s := failed + spelt(n, width)
					c := made(t, s+tail)
					if got, is := Draw(c, m); got != n || !is {
						t.Fatalf("Draw(%q, %d) = %d, %t; want %d", s+tail, m, got, is, n)
					}
					stands(t, c, model{s, tail, false})
				}
			}
		}
	}
}

// P9.4: as many tries fail as the longest string has, or all but the last one.
func TestP9_4_Longest(t *testing.T) {
	for _, m := range []uint64{3, 5, 9, 200, 1<<16 + 1, 1<<31 + 1, 1<<63 + 1, math.MaxUint64} {
		width := widthOf(m)
		tries := api.MaxBits / width
		failed := failures(m, tries)
		c := made(t, failed[tries])
		if n, is := Draw(c, m); n != 0 || is || c.At() != tries*width || !c.Over() {
			t.Errorf("%d failures below %d: %d, %t, at %d, over %t", tries, m, n, is, c.At(), c.Over())
		}
		c = made(t, failed[tries-1]+spelt(m-1, width))
		if n, is := Draw(c, m); n != m-1 || !is || c.At() != tries*width || c.Over() {
			t.Errorf("%d failures below %d: %d, %t, at %d, over %t", tries-1, m, n, is, c.At(), c.Over())
		}
	}
}

// P9.5: with other bits after those that were read the result is the same; with fewer bits than those it needs more.
func TestP9_5(t *testing.T) {
	tails := append(upTo(3), strings.Repeat("1", 64), strings.Repeat("0", 100)+"1")
	for _, s := range upTo(9) {
		for m := uint64(1); m < 40; m++ {
			c := made(t, s)
			n, is := Draw(c, m)
			if !is {
				continue
			}
			read := s[:c.At()]
			for _, tail := range tails {
				d := made(t, read+tail)
				if got, is := Draw(d, m); got != n || !is {
					t.Fatalf("Draw(%q, %d) = %d, %t; want %d as of %q", read+tail, m, got, is, n, s)
				}
				stands(t, d, model{read, tail, false})
			}
			for fewer := range read {
				needsMore(t, read[:fewer], m)
			}
		}
	}
}

// P9.5: the same of great bounds.
func TestP9_5_Great(t *testing.T) {
	for _, m := range bounds() {
		width := widthOf(m)
		failed := failures(m, 3)
		s := failed[len(failed)-1] + spelt(m-1, width)
		for fewer := range s {
			needsMore(t, s[:fewer], m)
		}
	}
}

// needsMore holds that no number is drawn below m, and that all tries but the last one have been read.
func needsMore(t *testing.T, s string, m uint64) {
	t.Helper()
	c := made(t, s)
	if n, is := Draw(c, m); n != 0 || is {
		t.Fatalf("Draw(%q, %d) = %d, %t", s, m, n, is)
	}
	at := len(s) - len(s)%widthOf(m)
	stands(t, c, model{s[:at], s[at:], true})
}

// P9.6: m is above 2 to the power of the width less 1, and at most 2 to the power of the width.
func TestP9_6_Width(t *testing.T) {
	for _, m := range bounds() {
		half, _ := rat.Half(1)
		most := power(Width(m))
		if rat.Cmp(number(m), rat.Mul(most, half)) <= 0 || rat.Cmp(number(m), most) > 0 {
			t.Errorf("Width(%d) = %d", m, Width(m))
		}
	}
}

// P9.6: the cost is at least the width, for m above 1 less than twice the width, and the width exactly for powers of 2.
func TestP9_6_Cost(t *testing.T) {
	for _, m := range bounds() {
		cost, width := costOf(t, m), number(uint64(Width(m)))
		least := rat.Cmp(cost, width)
		if least < 0 || (least == 0) != (m&(m-1) == 0) || m > 1 && rat.Cmp(cost, rat.Add(width, width)) >= 0 {
			t.Errorf("Cost(%d) = %s", m, rat.Show(cost))
		}
	}
}

// P9.6: the cost is the width plus the probability that a try fails times the cost.
func TestP9_6_Again(t *testing.T) {
	for _, m := range bounds() {
		cost := costOf(t, m)
		want := rat.Add(number(uint64(Width(m))), rat.Mul(fails(m), cost))
		if !rat.Same(cost, want) {
			t.Errorf("Cost(%d) = %s; want %s", m, rat.Show(cost), rat.Show(want))
		}
	}
}

// readOf counts, among all strings of n bits, those on which more are needed, and the bits that are read from all of
// them, n where more are needed.
func readOf(t *testing.T, m uint64, n int) (more, read uint64) {
	t.Helper()
	for s := range bits.All(n) {
		c := made(t, s)
		if _, is := Draw(c, m); is {
			read += uint64(c.At())
		} else {
			more++
			read += uint64(n)
		}
	}
	return more, read
}

// P9.7: the proportion of strings on which more bits are needed is at most the cost over n; the mean number of bits
// read is at most the cost. Where n bits are so many whole tries, both are known.
func TestP9_7(t *testing.T) {
	for _, m := range few() {
		cost, width := costOf(t, m), Width(m)
		for n := 1; n <= api.MaxTree; n++ {
			more, read := readOf(t, m, n)
			proportion, mean := over(more, 1<<n), over(read, 1<<n)
			if rat.Cmp(rat.Mul(proportion, number(uint64(n))), cost) > 0 || rat.Cmp(mean, cost) > 0 {
				t.Errorf("below %d on %d bits: more needed %s, mean %s, cost %s", m, n, rat.Show(proportion), rat.Show(mean), rat.Show(cost))
			}
			if width == 0 || n%width != 0 {
				continue
			}
			failed, e := rat.Pow(fails(m), n/width)
			want := rat.Mul(cost, rat.Sub(number(1), failed))
			if e != api.OK || !rat.Same(proportion, failed) || !rat.Same(mean, want) {
				t.Errorf("below %d on %d bits: more needed %s, mean %s; want %s, %s", m, n, rat.Show(proportion), rat.Show(mean), rat.Show(failed), rat.Show(want))
			}
		}
	}
}

// R3: results share no memory with anything that is kept: overwritten, they do not change a later one.
func TestR3_NewMemory(t *testing.T) {
	for _, m := range bounds() {
		cost := costOf(t, m)
		want := rat.Show(cost)
		for _, limbs := range []api.Nat{cost.Num.Mag, cost.Den} {
			limbs = limbs[:cap(limbs)]
			for i := range limbs {
				limbs[i] = 0x5555555555555555
			}
		}
		if got := rat.Show(costOf(t, m)); got != want {
			t.Errorf("Cost(%d) = %s; before %s", m, got, want)
		}
	}
}
