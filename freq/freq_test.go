package freq

import (
	"math"
	"slices"
	"strconv"
	"strings"
	"testing"

	"tombola/api"
	"tombola/below"
	"tombola/bits"
	"tombola/cursor"
	"tombola/rat"
)

// scramble makes words without pattern, always the same ones.
func scramble(x *uint64) uint64 {
	*x ^= *x << 13
	*x ^= *x >> 7
	*x ^= *x << 17
	return *x
}

// tuples are all lists of n weights from 0 to most, but that of zeros alone.
func tuples(n int, most int64) [][]int64 {
	l := [][]int64{nil}
	for range n {
		var next [][]int64
		for _, w := range l {
			for weight := range most + 1 {
				next = append(next, append(slices.Clone(w), weight))
			}
		}
		l = next
	}
	return l[1:]
}

// small are lists of few and little weights.
func small() [][]int64 {
	return slices.Concat(tuples(1, 40), tuples(2, 9), tuples(3, 4), tuples(4, 2), tuples(5, 1), tuples(7, 1))
}

// repeated is a list of n weights that are all the same.
func repeated(n int, weight int64) []int64 {
	return slices.Repeat([]int64{weight}, n)
}

// great are lists of many weights, of great ones, and of some without pattern.
func great() [][]int64 {
	l := [][]int64{
		{api.MaxWeight}, {api.MaxWeight - 1}, {api.MaxWeight, 1}, {1, api.MaxWeight}, {0, api.MaxWeight, 0}, {api.MaxWeight, api.MaxWeight},
		repeated(api.MaxItems, 1), repeated(api.MaxItems, 2), repeated(api.MaxItems, 3), repeated(api.MaxItems-1, 1),
		repeated(api.MaxItems, api.MaxWeight), repeated(api.MaxItems, api.MaxWeight-1), repeated(api.MaxItems-1, api.MaxWeight),
	}
	for _, at := range []int{0, 1, 31, 32, 62, 63} {
		alone, without := repeated(api.MaxItems, 0), repeated(api.MaxItems, 5)
		alone[at], without[at] = 7, 0
		l = append(l, alone, without)
	}
	x := uint64(88172645463325252)
	for _, n := range []int{2, 3, 5, 8, 16, 33, 63, 64} {
		for _, shift := range []int{44, 50, 56, 62} { // words of up to 20, 14, 8 and 2 bits
			w := repeated(n, 0)
			for i := range w {
				w[i] = int64(scramble(&x) >> shift)
			}
			l = append(l, append(w[1:], 1))
		}
	}
	return l
}

// lists are all of them.
func lists() [][]int64 {
	return append(small(), great()...)
}

// total is W.
func total(w []int64) int64 {
	sum := int64(0)
	for _, weight := range w {
		sum += weight
	}
	return sum
}

// picked goes by the definition: the first index up to and including which the weights add up to more than r.
func picked(w []int64, r int64) int {
	for i := range w {
		if total(w[:i+1]) > r {
			return i
		}
	}
	return -1
}

// edges are the numbers below W at which the index changes, those beside them, and some without pattern.
func edges(w []int64) []int64 {
	sum := total(w)
	l := []int64{0, 1, sum / 2, sum - 2, sum - 1}
	for i := range w {
		end := total(w[:i+1])
		l = append(l, end-1, end, end+1)
	}
	x := uint64(sum)
	for range 20 {
		l = append(l, int64(scramble(&x)%uint64(sum)))
	}
	return slices.DeleteFunc(l, func(r int64) bool { return r < 0 || r >= sum })
}

// made is a table of weights.
func made(t *testing.T, w []int64) *Table {
	t.Helper()
	f, e := New(w)
	if f == nil || e != api.OK {
		t.Fatalf("New(%v) = %v, error %d", w, f, e)
	}
	return f
}

// reader is a cursor of a bit string.
func reader(t *testing.T, s string) *cursor.Cursor {
	t.Helper()
	c, e := cursor.New(s)
	if c == nil || e != api.OK {
		t.Fatalf("cursor.New(%q) = %v, error %d", s, c, e)
	}
	return c
}

// picks holds an index against the one that should be picked.
func picks(t *testing.T, f *Table, r int64, want int) {
	t.Helper()
	if i, e := f.Pick(r); i != want || e != api.OK {
		t.Fatalf("W %d: Pick(%d) = %d, error %d; want %d", f.Sum(), r, i, e, want)
	}
}

// same holds two fractions against each other, part by part.
func same(t *testing.T, what string, got, want api.Rat) {
	t.Helper()
	if got.Num.Neg != want.Num.Neg || !slices.Equal(got.Num.Mag, want.Num.Mag) || !slices.Equal(got.Den, want.Den) {
		t.Fatalf("%s: %v; want %v", what, got, want)
	}
}

// share is the share of an index that there is.
func share(t *testing.T, f *Table, i int) api.Rat {
	t.Helper()
	p, e := f.Share(i)
	if e != api.OK || !rat.May(p) {
		t.Fatalf("W %d: Share(%d) = %v, error %d", f.Sum(), i, p, e)
	}
	return p
}

// over is a fraction of two numbers, the second one not 0.
func over(n, d int64) api.Rat {
	a, _ := rat.Over(n, d)
	return a
}

// spelt is n, which has no more bits, in so many of them.
func spelt(n int64, width int) string {
	if width == 0 {
		return ""
	}
	s := strconv.FormatInt(n, 2)
	return strings.Repeat("0", width-len(s)) + s
}

// model is what a cursor should be: the bits that have been read, those that have not, and whether it is over.
type model struct {
	read, rest string
	over       bool
}

// draw goes by texts and by the definition.
func (c *model) draw(w []int64) (int, bool) {
	width := below.Width(uint64(total(w)))
	for !c.over {
		if width > len(c.rest) {
			c.over = true
			break
		}
		r, _ := strconv.ParseInt("0"+c.rest[:width], 2, 64)
		c.read, c.rest = c.read+c.rest[:width], c.rest[width:]
		if r < total(w) {
			return picked(w, r), true
		}
	}
	return 0, false
}

// stands holds all that a cursor tells of itself against what it should.
func stands(t *testing.T, c *cursor.Cursor, want model) {
	t.Helper()
	if c.At() != len(want.read) || c.Left() != len(want.rest) || c.Rest() != want.rest || c.Over() != want.over {
		t.Fatalf("at %d, left %d, rest %q, over %t; want %+v", c.At(), c.Left(), c.Rest(), c.Over(), want)
	}
}

// draws draws an index, and holds the answer and the cursor against what they should be.
func draws(t *testing.T, f *Table, w []int64, c *cursor.Cursor, want *model) {
	t.Helper()
	was := *want
	index, is := want.draw(w)
	if i, got := f.Draw(c); i != index || got != is {
		t.Fatalf("%v: Draw at %+v = %d, %t; want %d, %t", w, was, i, got, index, is)
	}
	stands(t, c, *want)
}

// The chapter's examples.
func TestExamples(t *testing.T) {
	f := made(t, []int64{1, 0, 3})
	if f.Len() != 3 || f.Sum() != 4 {
		t.Errorf("Len %d, Sum %d", f.Len(), f.Sum())
	}
	picks(t, f, 0, 0)
	picks(t, f, 1, 2)
	picks(t, f, 3, 2)
	if i, e := f.Pick(4); i != 0 || e != api.ErrArg {
		t.Errorf("Pick(4) = %d, error %d", i, e)
	}
	for i, want := range []string{"1/4", "0", "3/4"} {
		if got := rat.Show(share(t, f, i)); got != want {
			t.Errorf("Share(%d) = %s; want %s", i, got, want)
		}
	}
	if got := rat.Show(f.Cost()); got != "2" {
		t.Errorf("Cost = %s", got)
	}
	for s, want := range map[string]int{"00": 0, "01": 2} {
		if i, is := f.Draw(reader(t, s)); i != want || !is {
			t.Errorf("Draw on %s = %d, %t", s, i, is)
		}
	}
	c := reader(t, "1")
	if i, is := f.Draw(c); i != 0 || is || !c.Over() {
		t.Errorf("Draw on 1 = %d, %t, over %t", i, is, c.Over())
	}
}

// P10.1: the number of the weights, and their sum.
func TestP10_1_Table(t *testing.T) {
	for _, w := range lists() {
		f := made(t, w)
		if f.Len() != len(w) || f.Sum() != total(w) {
			t.Errorf("%v: Len %d, Sum %d", w, f.Len(), f.Sum())
		}
	}
	if f := made(t, repeated(api.MaxItems, api.MaxWeight)); f.Len() != 64 || f.Sum() != 1<<26 {
		t.Errorf("Len %d, Sum %d", f.Len(), f.Sum())
	}
}

// P10.1, the errors and R2: each error of New ahead of the next one, and no table beside it.
func TestP10_1_Refused(t *testing.T) {
	zeros := repeated(api.MaxItems, 0)
	mixed := func(at int, weight int64) []int64 {
		w := repeated(api.MaxItems, 1)
		w[at] = weight
		return w
	}
	for _, x := range []struct {
		w    []int64
		want api.Errno
	}{
		{nil, api.ErrShort},
		{[]int64{}, api.ErrShort},
		{zeros[:0], api.ErrShort},
		{repeated(api.MaxItems+1, 1), api.ErrLong},
		{repeated(api.MaxItems+1, 0), api.ErrLong},
		{repeated(api.MaxItems+1, -1), api.ErrLong},
		{repeated(api.MaxItems+1, api.MaxWeight+1), api.ErrLong},
		{repeated(100000, 1), api.ErrLong},
		{[]int64{-1}, api.ErrArg},
		{[]int64{math.MinInt64}, api.ErrArg},
		{[]int64{math.MaxInt64}, api.ErrArg},
		{[]int64{api.MaxWeight + 1}, api.ErrArg},
		{[]int64{0, -1}, api.ErrArg},
		{[]int64{-1, 0}, api.ErrArg},
		{[]int64{1, -1}, api.ErrArg},
		{[]int64{-1, 1}, api.ErrArg},
		{[]int64{5, -1}, api.ErrArg},
		{[]int64{api.MaxWeight, -api.MaxWeight}, api.ErrArg},
		{[]int64{0, 0, api.MaxWeight + 1}, api.ErrArg},
		{[]int64{math.MaxInt64, math.MaxInt64, 2}, api.ErrArg}, // which add up to 0
		{[]int64{1 << 32}, api.ErrArg},
		{[]int64{1, 1<<32 + 1}, api.ErrArg},
		{mixed(0, -1), api.ErrArg},
		{mixed(31, -1), api.ErrArg},
		{mixed(63, -1), api.ErrArg},
		{mixed(0, api.MaxWeight+1), api.ErrArg},
		{mixed(63, api.MaxWeight+1), api.ErrArg},
		{zeros[:1], api.ErrZero},
		{zeros[:2], api.ErrZero},
		{zeros, api.ErrZero},
	} {
		if f, e := New(x.w); f != nil || e != x.want {
			t.Errorf("New(%d weights, %v ..) = %v, error %d; want %d", len(x.w), x.w[:min(3, len(x.w))], f, e, x.want)
		}
	}
}

// P10.1: what is picked, of all numbers below W, is what the definition says.
func TestP10_1_Pick(t *testing.T) {
	for _, w := range small() {
		f := made(t, w)
		for r := range total(w) {
			picks(t, f, r, picked(w, r))
		}
	}
	for _, w := range great() {
		f := made(t, w)
		for _, r := range edges(w) {
			picks(t, f, r, picked(w, r))
		}
	}
}

// P10.1, the errors: no other number picks anything.
func TestP10_1_PickOutside(t *testing.T) {
	for _, w := range lists() {
		f := made(t, w)
		for _, r := range []int64{math.MinInt64, -1 << 32, -2, -1, total(w), total(w) + 1, 1 << 32, 1<<32 + 1, math.MaxInt64} {
			if i, e := f.Pick(r); i != 0 || e != api.ErrArg {
				t.Fatalf("%v: Pick(%d) = %d, error %d", w, r, i, e)
			}
		}
	}
}

// P10.1: each share is the weight over W, in lowest terms.
func TestP10_1_Share(t *testing.T) {
	for _, w := range lists() {
		f := made(t, w)
		for i, weight := range w {
			same(t, "Share", share(t, f, i), over(weight, total(w)))
		}
	}
}

// P10.1, the errors and R1: there are no other indices; beside ErrArg there is nothing.
func TestP10_1_ShareOutside(t *testing.T) {
	for _, w := range lists() {
		f := made(t, w)
		for _, i := range []int{math.MinInt, -1 << 32, -2, -1, len(w), len(w) + 1, 64, 65, 1 << 32, math.MaxInt} {
			p, e := f.Share(i)
			if e != api.ErrArg {
				t.Fatalf("%v: Share(%d): error %d", w, i, e)
			}
			same(t, "beside the error", p, api.Rat{})
		}
	}
}

// P10.1, P10.2 and the errors: of nil, and of a table that New did not make, there is nothing, and nothing is read.
func TestP10_2_NotMade(t *testing.T) {
	for _, f := range []*Table{nil, {}, new(Table)} {
		if f.Len() != 0 || f.Sum() != 0 {
			t.Errorf("Len %d, Sum %d", f.Len(), f.Sum())
		}
		for _, n := range []int{math.MinInt, -1, 0, 1, math.MaxInt} { // ErrNil ahead of ErrArg
			if i, e := f.Pick(int64(n)); i != 0 || e != api.ErrNil {
				t.Errorf("Pick(%d) = %d, error %d", n, i, e)
			}
			p, e := f.Share(n)
			if e != api.ErrNil {
				t.Errorf("Share(%d): error %d", n, e)
			}
			same(t, "beside the error", p, api.Rat{})
		}
		same(t, "Cost", f.Cost(), rat.Of(0))
		for _, s := range []string{"", "0", "1", "0110", strings.Repeat("0", api.MaxBits)} {
			c := reader(t, s)
			for range 2 {
				if i, is := f.Draw(c); i != 0 || is {
					t.Errorf("Draw = %d, %t", i, is)
				}
				stands(t, c, model{rest: s})
			}
		}
		if i, is := f.Draw(nil); i != 0 || is {
			t.Errorf("Draw of nil = %d, %t", i, is)
		}
	}
}

// texts are all bit strings of few bits, and long ones.
func texts() []string {
	var l []string
	for n := range 8 {
		l = slices.AppendSeq(l, bits.All(n))
	}
	x := uint64(88172645463325252)
	for _, n := range []int{63, 64, 65, 200, api.MaxBits} {
		mixed := make([]byte, n)
		for i := range mixed {
			mixed[i] = '0' + byte(scramble(&x)>>40&1)
		}
		l = append(l, string(mixed), strings.Repeat("0", n), strings.Repeat("1", n))
	}
	return l
}

// P10.2: indices are drawn one after the other until the cursor is over, and then no more.
func TestP10_2_Draw(t *testing.T) {
	for _, w := range lists() {
		f := made(t, w)
		for _, s := range texts() {
			c, want := reader(t, s), model{rest: s}
			for range 40 {
				draws(t, f, w, c, &want)
			}
		}
	}
}

// P10.2: one draw begins where another table's has ended.
func TestP10_2_InTurn(t *testing.T) {
	some := [][]int64{{1, 0, 3}, {5}, {1, 1, 1}, {0, 2, 4}, repeated(64, 1), {1, api.MaxWeight}}
	for _, s := range texts() {
		for _, v := range some {
			for _, w := range some {
				c, want := reader(t, s), model{rest: s}
				for range 5 {
					draws(t, made(t, v), v, c, &want)
					draws(t, made(t, w), w, c, &want)
				}
			}
		}
	}
}

// P10.2: each number below W, drawn at once or after tries that fail, draws what it picks.
func TestP10_2_Numbers(t *testing.T) {
	for _, w := range lists() {
		f, width := made(t, w), below.Width(uint64(total(w)))
		failed := ""
		if total(w) < 1<<width {
			failed = spelt(total(w), width) + strings.Repeat("1", width)
		}
		for _, r := range edges(w) {
			for _, tail := range []string{"", "0", "1", "0110"} {
				s := failed + spelt(r, width)
				c := reader(t, s+tail)
				if i, is := f.Draw(c); i != picked(w, r) || !is {
					t.Fatalf("%v: Draw on %s = %d, %t; want %d", w, s+tail, i, is, picked(w, r))
				}
				stands(t, c, model{s, tail, false})
			}
			for n := range width { // fewer bits than those
				c := reader(t, failed+spelt(r, width)[:n])
				if i, is := f.Draw(c); i != 0 || is || !c.Over() || c.At() != len(failed) {
					t.Fatalf("%v: Draw on %d bits = %d, %t, at %d, over %t", w, len(failed)+n, i, is, c.At(), c.Over())
				}
			}
		}
	}
}

// P10.2 and R1: of a cursor that is over, of nil, and of one that cursor.New did not make nothing is drawn; but 0 bits
// are enough for the only number below a W of 1.
func TestP10_2_Over(t *testing.T) {
	for _, w := range lists() {
		f := made(t, w)
		c := reader(t, "000000")
		c.Take(7)
		want := model{"", "000000", true}
		draws(t, f, w, c, &want)
		if i, is := f.Draw(nil); i != 0 || is {
			t.Errorf("%v: Draw of nil = %d, %t", w, i, is)
		}
		want = model{}
		draws(t, f, w, new(cursor.Cursor), &want)
	}
}

// P10.2: the cost is that of a number below W.
func TestP10_2_Cost(t *testing.T) {
	for _, w := range lists() {
		want, e := below.Cost(uint64(total(w)))
		if e != api.OK {
			t.Fatal(e)
		}
		same(t, "Cost", made(t, w).Cost(), want)
	}
	for want, w := range map[string][]int64{
		"0": {0, 1, 0}, "1": {1, 1}, "8/3": {3}, "24/5": {0, 4, 1}, "4": {1, 2, 3}, "6": repeated(64, 1),
		"44040192/1048577": {1, api.MaxWeight}, "26": repeated(64, api.MaxWeight),
	} {
		if got := rat.Show(made(t, w).Cost()); got != want {
			t.Errorf("%v: Cost %s; want %s", w, got, want)
		}
	}
}

// P10.3: each index is picked by as many numbers as its weight; a greater number never picks a smaller index.
func TestP10_3_Numbers(t *testing.T) {
	for _, w := range append(lists(), []int64{1000, 0, 0, 12345, 1, 65536}) {
		if total(w) > 1<<21 {
			continue
		}
		f := made(t, w)
		counts, before := repeated(len(w), 0), 0
		for r := range f.Sum() {
			i, e := f.Pick(r)
			if e != api.OK || i < before || i >= len(w) {
				t.Fatalf("%v: Pick(%d) = %d, error %d, after %d", w, r, i, e, before)
			}
			counts[i]++
			before = i
		}
		if !slices.Equal(counts, w) {
			t.Errorf("%v: picked %v times", w, counts)
		}
	}
}

// P10.3 and P3: among the strings of n bits on which an index is drawn, if there are any, the proportion is its share;
// as P5 says, that of all strings never exceeds the share.
func TestP10_3_Strings(t *testing.T) {
	for _, w := range [][]int64{{1}, {0, 1}, {1, 1}, {1, 0, 3}, {2, 1}, {1, 2, 3}, {5, 0, 0, 2}, {3, 3, 3}, {0, 10, 1, 0}, {20, 1, 3}, repeated(9, 1), repeated(64, 1), {1000, 24, 0, 1}} {
		f := made(t, w)
		for n := range api.MaxTree + 1 {
			counts, all := repeated(len(w), 0), int64(0)
			for s := range bits.All(n) {
				if i, is := f.Draw(reader(t, s)); is {
					counts[i]++
					all++
				}
			}
			if (all > 0) != (n >= below.Width(uint64(total(w)))) {
				t.Fatalf("%v on %d bits: drawn on %d strings", w, n, all)
			}
			for i, count := range counts {
				p := share(t, f, i)
				if all > 0 && !rat.Same(over(count, all), p) || rat.Cmp(over(count, 1<<n), p) > 0 {
					t.Fatalf("%v on %d bits: %d on %d of %d strings", w, n, i, count, all)
				}
			}
		}
	}
}

// P10.4: all shares add up to 1, and none is negative.
func TestP10_4(t *testing.T) {
	for _, w := range lists() {
		f := made(t, w)
		var shares []api.Rat
		for i := range w {
			p := share(t, f, i)
			if rat.Cmp(p, rat.Of(0)) < 0 || rat.Cmp(p, rat.Of(0)) == 0 != (w[i] == 0) {
				t.Fatalf("%v: Share(%d) = %s", w, i, rat.Show(p))
			}
			shares = append(shares, p)
		}
		same(t, "the sum", rat.Sum(shares...), rat.Of(1))
	}
}

// P10.5: all weights, multiplied by the same number, have the same shares; each number picks as its multiples do.
func TestP10_5(t *testing.T) {
	for _, w := range lists() {
		f, most := made(t, w), api.MaxWeight/slices.Max(w)
		for _, factor := range []int64{2, 3, 7, 64, 1000, most - 1, most} {
			if factor < 1 || factor > most {
				continue
			}
			scaled := slices.Clone(w)
			for i := range scaled {
				scaled[i] *= factor
			}
			g := made(t, scaled)
			for i := range w {
				same(t, "Share", share(t, g, i), share(t, f, i))
			}
			for _, r := range edges(w) {
				i, _ := f.Pick(r)
				picks(t, g, r*factor, i)
				picks(t, g, r*factor+factor-1, i)
			}
		}
	}
}

// P10.6: of a weight that is split into two, a number that picked the index picks exactly one; later indices are shifted
// by one, earlier ones are not; the two shares add up to the one.
func TestP10_6(t *testing.T) {
	for _, w := range append(small(), []int64{1000, 0, 2000, 3}) {
		f := made(t, w)
		for at, weight := range w {
			for _, first := range []int64{0, 1, weight / 2, weight - 1, weight} {
				if first < 0 || first > weight {
					continue
				}
				g := made(t, slices.Concat(w[:at], []int64{first, weight - first}, w[at+1:]))
				same(t, "both", rat.Add(share(t, g, at), share(t, g, at+1)), share(t, f, at))
				for r := range f.Sum() {
					i, _ := f.Pick(r)
					if i > at || i == at && r-total(w[:at]) >= first {
						i++
					}
					picks(t, g, r, i)
				}
			}
		}
	}
}

// P10.7: the slice passed to New may be overwritten.
func TestP10_7(t *testing.T) {
	for _, w := range lists() {
		passed := slices.Clone(w)
		f := made(t, passed)
		for i := range passed {
			passed[i] = 1<<40 + int64(i)
		}
		if f.Len() != len(w) || f.Sum() != total(w) {
			t.Fatalf("%v: Len %d, Sum %d", w, f.Len(), f.Sum())
		}
		for i := range w {
			same(t, "Share", share(t, f, i), over(w[i], total(w)))
		}
		for _, r := range edges(w) {
			picks(t, f, r, picked(w, r))
		}
	}
}

// R3: the weights, and what lies behind them, are not modified, whether they are refused or not; no table is changed by
// another one, or by a call that is refused.
func TestR3_Arguments(t *testing.T) {
	for _, w := range append(lists(), []int64{0, 0}, []int64{1, 2, -1}, repeated(api.MaxItems+1, 1)) {
		passed := append(slices.Clone(w), -5, 6, -7)
		kept := slices.Clone(passed)
		f, _ := New(passed[:len(w)])
		other := made(t, []int64{1, 2, 3})
		f.Pick(-1)
		f.Share(-1)
		if !slices.Equal(passed, kept) {
			t.Fatalf("%v is now %v", kept, passed)
		}
		if f != nil && (f.Len() != len(w) || f.Sum() != total(w)) || other.Len() != 3 || other.Sum() != 6 {
			t.Fatalf("%v: Len %d, Sum %d", w, f.Len(), f.Sum())
		}
	}
}

// R3: results share no memory with anything that is kept: overwritten, they do not change a later one.
func TestR3_NewMemory(t *testing.T) {
	for _, f := range []*Table{nil, {}, made(t, []int64{1}), made(t, []int64{1, 0, 3}), made(t, repeated(64, 3)), made(t, []int64{api.MaxWeight, 1})} {
		results := []func() api.Rat{f.Cost}
		for i := range f.Len() {
			results = append(results, func() api.Rat { return share(t, f, i) })
		}
		for _, result := range results {
			first := result()
			want := rat.Show(first)
			for _, limbs := range []api.Nat{first.Num.Mag, first.Den} {
				limbs = limbs[:cap(limbs)]
				for i := range limbs {
					limbs[i] = 0x5555555555555555
				}
			}
			if got := rat.Show(result()); got != want {
				t.Errorf("%s; before %s", got, want)
			}
		}
	}
}
