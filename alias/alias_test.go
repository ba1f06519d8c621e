package alias

import (
	"math"
	"slices"
	"strconv"
	"strings"
	"testing"

	"tombola/api"
	"tombola/below"
	"tombola/bits"
	"tombola/cursor"
	"tombola/freq"
	"tombola/rat"
)

// scramble makes words without pattern, always the same ones.
func scramble(x *uint64) uint64 {
	*x ^= *x << 13
	*x ^= *x >> 7
	*x ^= *x << 17
	return *x
}

// tuples are all lists of n weights from 0 to most, but that of zeros alone.
func tuples(n int, most int64) [][]int64 {
	l := [][]int64{nil}
	for range n {
		var next [][]int64
		for _, w := range l {
			for weight := range most + 1 {
				next = append(next, append(slices.Clone(w), weight))
			}
		}
		l = next
	}
	return l[1:]
}

// small are lists of few and little weights.
func small() [][]int64 {
	return slices.Concat(tuples(1, 40), tuples(2, 9), tuples(3, 5), tuples(4, 3), tuples(5, 2), tuples(7, 1))
}

// repeated is a list of n weights that are all the same.
func repeated(n int, weight int64) []int64 {
	return slices.Repeat([]int64{weight}, n)
}

// great are lists of many weights, of great ones, and of some without pattern.
func great() [][]int64 {
	l := [][]int64{
		{api.MaxWeight}, {api.MaxWeight - 1}, {api.MaxWeight, 1}, {1, api.MaxWeight}, {0, api.MaxWeight, 0}, {api.MaxWeight, api.MaxWeight},
		repeated(api.MaxItems, 1), repeated(api.MaxItems, 2), repeated(api.MaxItems, 3), repeated(api.MaxItems-1, 1),
		repeated(api.MaxItems, api.MaxWeight), repeated(api.MaxItems, api.MaxWeight-1), repeated(api.MaxItems-1, api.MaxWeight),
	}
	for _, at := range []int{0, 1, 31, 32, 62, 63} {
		alone, without := repeated(api.MaxItems, 0), repeated(api.MaxItems, 5)
		alone[at], without[at] = 7, 0
		above, under := repeated(api.MaxItems, 5), repeated(api.MaxItems, api.MaxWeight)
		above[at], under[at] = 6, api.MaxWeight-1
		l = append(l, alone, without, above, under)
	}
	rising, falling := repeated(api.MaxItems, 0), repeated(api.MaxItems, 0)
	for i := range rising {
		rising[i], falling[i] = int64(i), int64(api.MaxItems-i)
	}
	l = append(l, rising, falling)
	x := uint64(88172645463325252)
	for _, n := range []int{2, 3, 5, 8, 16, 33, 63, 64} {
		for _, shift := range []int{44, 50, 56, 62} { // words of up to 20, 14, 8 and 2 bits
			w := repeated(n, 0)
			for i := range w {
				w[i] = int64(scramble(&x) >> shift)
			}
			l = append(l, append(w[1:], 1))
		}
	}
	return l
}

// lists are all of them.
func lists() [][]int64 {
	return append(small(), great()...)
}

// total is W.
func total(w []int64) int64 {
	sum := int64(0)
	for _, weight := range w {
		sum += weight
	}
	return sum
}

// row is what a table has for one index.
type row struct {
	cut   int64
	other int
}

// defined goes by the definition, with two lists that have nothing to do with each other.
func defined(w []int64) []row {
	var rows []row
	var heights []int64
	var low, high []int
	for i, weight := range w {
		rows = append(rows, row{total(w), i})
		heights = append(heights, int64(len(w))*weight)
		if heights[i] < total(w) {
			low = append(low, i)
		} else {
			high = append(high, i)
		}
	}
	for len(low) > 0 && len(high) > 0 {
		l, h := low[len(low)-1], high[len(high)-1]
		rows[l] = row{heights[l], h}
		low = slices.Clone(low[:len(low)-1])
		heights[h] -= total(w) - heights[l]
		if heights[h] < total(w) {
			high = slices.Clone(high[:len(high)-1])
			low = append(low, h)
		}
	}
	return rows
}

// picked goes by the definition: what an index and a number below W pick.
func picked(rows []row, i int, r int64) int {
	if r < rows[i].cut {
		return i
	}
	return rows[i].other
}

// edges are the numbers below W that are cuts, those beside them, and some without pattern.
func edges(rows []row, sum int64) []int64 {
	l := []int64{0, 1, sum / 2, sum - 2, sum - 1}
	for _, x := range rows {
		l = append(l, x.cut-1, x.cut, x.cut+1)
	}
	x := uint64(sum)
	for range 5 {
		l = append(l, int64(scramble(&x)%uint64(sum)))
	}
	l = slices.DeleteFunc(l, func(r int64) bool { return r < 0 || r >= sum })
	slices.Sort(l)
	return slices.Compact(l)
}

// made is a table of weights.
func made(t *testing.T, w []int64) *Table {
	t.Helper()
	a, e := New(w)
	if a == nil || e != api.OK {
		t.Fatalf("New(%v) = %v, error %d", w, a, e)
	}
	return a
}

// reader is a cursor of a bit string.
func reader(t *testing.T, s string) *cursor.Cursor {
	t.Helper()
	c, e := cursor.New(s)
	if c == nil || e != api.OK {
		t.Fatalf("cursor.New(%q) = %v, error %d", s, c, e)
	}
	return c
}

// cutOf is the cut of an index that there is.
func cutOf(t *testing.T, a *Table, i int) int64 {
	t.Helper()
	cut, e := a.Cut(i)
	if e != api.OK {
		t.Fatalf("Cut(%d): error %d", i, e)
	}
	return cut
}

// otherOf is the alias of an index that there is.
func otherOf(t *testing.T, a *Table, i int) int {
	t.Helper()
	other, e := a.Other(i)
	if e != api.OK {
		t.Fatalf("Other(%d): error %d", i, e)
	}
	return other
}

// pick is what an index and a number, which there are, pick.
func pick(t *testing.T, a *Table, i int, r int64) int {
	t.Helper()
	choice, e := a.Pick(i, r)
	if e != api.OK {
		t.Fatalf("W %d: Pick(%d, %d): error %d", a.Sum(), i, r, e)
	}
	return choice
}

// has holds all that a table tells of its indices against what it should.
func has(t *testing.T, a *Table, w []int64, rows []row) {
	t.Helper()
	if a.Len() != len(w) || a.Sum() != total(w) {
		t.Fatalf("%v: Len %d, Sum %d", w, a.Len(), a.Sum())
	}
	for i, want := range rows {
		if got := (row{cutOf(t, a, i), otherOf(t, a, i)}); got != want {
			t.Fatalf("%v: index %d has %+v; want %+v", w, i, got, want)
		}
	}
}

// same holds two fractions against each other, part by part.
func same(t *testing.T, what string, got, want api.Rat) {
	t.Helper()
	if got.Num.Neg != want.Num.Neg || !slices.Equal(got.Num.Mag, want.Num.Mag) || !slices.Equal(got.Den, want.Den) {
		t.Fatalf("%s: %v; want %v", what, got, want)
	}
}

// share is the share of an index that there is.
func share(t *testing.T, a *Table, i int) api.Rat {
	t.Helper()
	p, e := a.Share(i)
	if e != api.OK || !rat.May(p) {
		t.Fatalf("W %d: Share(%d) = %v, error %d", a.Sum(), i, p, e)
	}
	return p
}

// over is a fraction of two numbers, the second one not 0.
func over(n, d int64) api.Rat {
	p, _ := rat.Over(n, d)
	return p
}

// spelt is n, which has no more bits, in so many of them.
func spelt(n int64, width int) string {
	if width == 0 {
		return ""
	}
	s := strconv.FormatInt(n, 2)
	return strings.Repeat("0", width-len(s)) + s
}

// model is what a cursor should be: the bits that have been read, those that have not, and whether it is over.
type model struct {
	read, rest string
	over       bool
}

// number is a number below m, drawn by texts and by the definition.
func (c *model) number(m int64) (int64, bool) {
	width := below.Width(uint64(m))
	for !c.over {
		if width > len(c.rest) {
			c.over = true
			break
		}
		r, _ := strconv.ParseInt("0"+c.rest[:width], 2, 64)
		c.read, c.rest = c.read+c.rest[:width], c.rest[width:]
		if r < m {
			return r, true
		}
	}
	return 0, false
}

// draw draws both numbers.
func (c *model) draw(rows []row, sum int64) (int, bool) {
	i, is := c.number(int64(len(rows)))
	if !is {
		return 0, false
	}
	r, is := c.number(sum)
	if !is {
		return 0, false
	}
	return picked(rows, int(i), r), true
}

// stands holds all that a cursor tells of itself against what it should.
func stands(t *testing.T, c *cursor.Cursor, want model) {
	t.Helper()
	if c.At() != len(want.read) || c.Left() != len(want.rest) || c.Rest() != want.rest || c.Over() != want.over {
		t.Fatalf("at %d, left %d, rest %q, over %t; want %+v", c.At(), c.Left(), c.Rest(), c.Over(), want)
	}
}

// draws draws an index, and holds the answer and the cursor against what they should be.
func draws(t *testing.T, a *Table, rows []row, c *cursor.Cursor, want *model) {
	t.Helper()
	was := *want
	index, is := want.draw(rows, a.Sum())
	if i, got := a.Draw(c); i != index || got != is {
		t.Fatalf("%v, W %d: Draw at %+v = %d, %t; want %d, %t", rows, a.Sum(), was, i, got, index, is)
	}
	stands(t, c, *want)
}

// The chapter's examples.
func TestExamples(t *testing.T) {
	a := made(t, []int64{1, 3})
	has(t, a, []int64{1, 3}, []row{{2, 1}, {4, 1}})
	if i, j := pick(t, a, 0, 1), pick(t, a, 0, 2); i != 0 || j != 1 {
		t.Errorf("Pick(0, 1) = %d, Pick(0, 2) = %d", i, j)
	}
	if first, second, cost := rat.Show(share(t, a, 0)), rat.Show(share(t, a, 1)), rat.Show(a.Cost()); first != "1/4" || second != "3/4" || cost != "3" {
		t.Errorf("shares %s and %s, cost %s", first, second, cost)
	}
	has(t, made(t, []int64{5}), []int64{5}, []row{{5, 0}})
	has(t, made(t, []int64{0, 0, 1}), []int64{0, 0, 1}, []row{{0, 2}, {0, 2}, {1, 2}})
	if a, e := New(nil); a != nil || e != api.ErrShort {
		t.Errorf("no weights: %v, error %d", a, e)
	}
	if a, e := New([]int64{0, 0}); a != nil || e != api.ErrZero {
		t.Errorf("0, 0: %v, error %d", a, e)
	}
}

// P11.1: tables reckoned by hand, which tell the orders apart that the definition does not allow.
func TestP11_1_ByHand(t *testing.T) {
	for _, x := range []struct {
		w    []int64
		want []row
	}{
		{[]int64{1, 2, 3}, []row{{3, 2}, {6, 1}, {6, 2}}}, // a height that is W is high from the start
		{[]int64{3, 1}, []row{{4, 0}, {2, 0}}},
		{[]int64{2, 2, 2}, []row{{6, 0}, {6, 1}, {6, 2}}},
		{[]int64{0, 1, 0}, []row{{0, 1}, {1, 1}, {0, 1}}},
		{[]int64{0, 5, 2}, []row{{0, 1}, {7, 1}, {6, 1}}},
		{[]int64{1, 4, 4}, []row{{3, 2}, {9, 1}, {6, 1}}},                          // 2 becomes low after 0
		{[]int64{1, 1, 4, 4}, []row{{4, 3}, {4, 3}, {10, 2}, {4, 2}}},              // 3 stays high with a height of W
		{[]int64{0, 3, 0, 3}, []row{{0, 3}, {6, 1}, {0, 3}, {0, 1}}},               // 3 stays high with a height of W, and then is cut at 0
		{[]int64{0, 0, 1, 1}, []row{{0, 3}, {0, 3}, {2, 2}, {0, 2}}},               // so is 3 here
		{[]int64{1, 0, 2, 3}, []row{{4, 3}, {0, 3}, {6, 2}, {4, 2}}},               // 1 goes ahead of 0
		{[]int64{1, 5, 6, 0}, []row{{4, 2}, {12, 1}, {4, 1}, {0, 2}}},              // 3 goes ahead of 0
		{[]int64{1, 0, 6, 3}, []row{{4, 2}, {0, 3}, {10, 2}, {2, 2}}},              // 3 becomes low while 0 is
		{[]int64{2, 0, 5, 5, 3}, []row{{10, 2}, {0, 4}, {15, 2}, {10, 2}, {0, 3}}}, // 4 and then 3 become low, both go ahead of 0
		{[]int64{0, 0, 0, 1, 9}, []row{{0, 4}, {0, 4}, {0, 4}, {5, 4}, {10, 4}}},   // 4 stays high to the end
		{[]int64{4, 1, 1, 0, 4}, []row{{10, 0}, {5, 0}, {5, 4}, {0, 4}, {5, 0}}},   // 4 becomes low while 1 is
		{[]int64{api.MaxWeight, 0}, []row{{api.MaxWeight, 0}, {0, 0}}},
		{[]int64{api.MaxWeight, 1}, []row{{api.MaxWeight + 1, 0}, {2, 0}}},
	} {
		has(t, made(t, x.w), x.w, x.want)
	}
}

// P11.1: tables are those of the definition.
func TestP11_1_Table(t *testing.T) {
	for _, w := range lists() {
		has(t, made(t, w), w, defined(w))
	}
	if a := made(t, repeated(api.MaxItems, api.MaxWeight)); a.Len() != 64 || a.Sum() != 1<<26 {
		t.Errorf("Len %d, Sum %d", a.Len(), a.Sum())
	}
}

// P11.1, the errors and R2: each error of New ahead of the next one, and no table beside it.
func TestP11_1_Refused(t *testing.T) {
	zeros := repeated(api.MaxItems, 0)
	mixed := func(at int, weight int64) []int64 {
		w := repeated(api.MaxItems, 1)
		w[at] = weight
		return w
	}
	for _, x := range []struct {
		w    []int64
		want api.Errno
	}{
		{nil, api.ErrShort},
		{[]int64{}, api.ErrShort},
		{zeros[:0], api.ErrShort},
		{repeated(api.MaxItems+1, 1), api.ErrLong},
		{repeated(api.MaxItems+1, 0), api.ErrLong},
		{repeated(api.MaxItems+1, -1), api.ErrLong},
		{repeated(api.MaxItems+1, api.MaxWeight+1), api.ErrLong},
		{repeated(100000, 1), api.ErrLong},
		{[]int64{-1}, api.ErrArg},
		{[]int64{math.MinInt64}, api.ErrArg},
		{[]int64{math.MaxInt64}, api.ErrArg},
		{[]int64{api.MaxWeight + 1}, api.ErrArg},
		{[]int64{0, -1}, api.ErrArg},
		{[]int64{-1, 0}, api.ErrArg},
		{[]int64{1, -1}, api.ErrArg},
		{[]int64{-1, 1}, api.ErrArg},
		{[]int64{5, -1}, api.ErrArg},
		{[]int64{api.MaxWeight, -api.MaxWeight}, api.ErrArg},
		{[]int64{0, 0, api.MaxWeight + 1}, api.ErrArg},
		{[]int64{math.MaxInt64, math.MaxInt64, 2}, api.ErrArg}, // which add up to 0
		{[]int64{1 << 32}, api.ErrArg},
		{[]int64{1, 1<<32 + 1}, api.ErrArg},
		{mixed(0, -1), api.ErrArg},
		{mixed(31, -1), api.ErrArg},
		{mixed(63, -1), api.ErrArg},
		{mixed(0, api.MaxWeight+1), api.ErrArg},
		{mixed(63, api.MaxWeight+1), api.ErrArg},
		{zeros[:1], api.ErrZero},
		{zeros[:2], api.ErrZero},
		{zeros, api.ErrZero},
	} {
		if a, e := New(x.w); a != nil || e != x.want {
			t.Errorf("New(%d weights, %v ..) = %v, error %d; want %d", len(x.w), x.w[:min(3, len(x.w))], a, e, x.want)
		}
	}
}

// P11.1: what is picked, by all indices and all numbers below W, is what the definition says.
func TestP11_1_Pick(t *testing.T) {
	holds := func(a *Table, rows []row, r int64) {
		for i := range rows {
			if got := pick(t, a, i, r); got != picked(rows, i, r) {
				t.Fatalf("%v: Pick(%d, %d) = %d", rows, i, r, got)
			}
		}
	}
	for _, w := range small() {
		for r := range total(w) {
			holds(made(t, w), defined(w), r)
		}
	}
	for _, w := range great() {
		a, rows := made(t, w), defined(w)
		for _, r := range edges(rows, total(w)) {
			holds(a, rows, r)
		}
	}
}

// outside are indices that a table of n does not have.
func outside(n int) []int {
	return []int{math.MinInt, -1 << 32, -2, -1, n, n + 1, 64, 65, 1 << 32, math.MaxInt}
}

// P11.1, P11.2, the errors and R1: there are no other indices; beside ErrArg there is nothing.
func TestP11_1_Outside(t *testing.T) {
	for _, w := range lists() {
		a := made(t, w)
		for _, i := range outside(len(w)) {
			cut, e := a.Cut(i)
			other, f := a.Other(i)
			if cut != 0 || e != api.ErrArg || other != 0 || f != api.ErrArg {
				t.Fatalf("%v: Cut(%d) = %d, error %d; Other %d, error %d", w, i, cut, e, other, f)
			}
			p, e := a.Share(i)
			if e != api.ErrArg {
				t.Fatalf("%v: Share(%d): error %d", w, i, e)
			}
			same(t, "beside the error", p, api.Rat{})
		}
	}
}

// P11.1, the errors: no other pair picks anything, whichever of its two is wrong.
func TestP11_1_PickOutside(t *testing.T) {
	for _, w := range lists() {
		a, wrong := made(t, w), []int64{math.MinInt64, -1 << 32, -2, -1, total(w), total(w) + 1, 1 << 32, 1<<32 + 1, math.MaxInt64}
		refused := func(i int, r int64) {
			if got, e := a.Pick(i, r); got != 0 || e != api.ErrArg {
				t.Fatalf("%v: Pick(%d, %d) = %d, error %d", w, i, r, got, e)
			}
		}
		for _, r := range wrong {
			for i := range w {
				refused(i, r)
			}
		}
		for _, i := range outside(len(w)) {
			for _, r := range append(wrong, 0, total(w)-1) {
				refused(i, r)
			}
		}
	}
}

// P11.1, P11.2 and the errors: of nil, and of a table that New did not make, there is nothing, and nothing is read.
func TestP11_2_NotMade(t *testing.T) {
	for _, a := range []*Table{nil, {}, new(Table)} {
		if a.Len() != 0 || a.Sum() != 0 {
			t.Errorf("Len %d, Sum %d", a.Len(), a.Sum())
		}
		for _, i := range []int{math.MinInt, -1, 0, 1, math.MaxInt} { // ErrNil ahead of ErrArg
			cut, e := a.Cut(i)
			other, f := a.Other(i)
			if cut != 0 || e != api.ErrNil || other != 0 || f != api.ErrNil {
				t.Errorf("Cut(%d) = %d, error %d; Other %d, error %d", i, cut, e, other, f)
			}
			for _, r := range []int64{math.MinInt64, -1, 0, 1, math.MaxInt64} {
				if got, e := a.Pick(i, r); got != 0 || e != api.ErrNil {
					t.Errorf("Pick(%d, %d) = %d, error %d", i, r, got, e)
				}
			}
			p, e := a.Share(i)
			if e != api.ErrNil {
				t.Errorf("Share(%d): error %d", i, e)
			}
			same(t, "beside the error", p, api.Rat{})
		}
		same(t, "Cost", a.Cost(), rat.Of(0))
		for _, s := range []string{"", "0", "1", "0110", strings.Repeat("0", api.MaxBits)} {
			c := reader(t, s)
			for range 2 {
				if i, is := a.Draw(c); i != 0 || is {
					t.Errorf("Draw = %d, %t", i, is)
				}
				stands(t, c, model{rest: s})
			}
		}
		if i, is := a.Draw(nil); i != 0 || is {
			t.Errorf("Draw of nil = %d, %t", i, is)
		}
	}
}

// texts are all bit strings of few bits, and long ones.
func texts() []string {
	var l []string
	for n := range 8 {
		l = slices.AppendSeq(l, bits.All(n))
	}
	x := uint64(88172645463325252)
	for _, n := range []int{63, 64, 65, 200, api.MaxBits} {
		mixed := make([]byte, n)
		for i := range mixed {
			mixed[i] = '0' + byte(scramble(&x)>>40&1)
		}
		l = append(l, string(mixed), strings.Repeat("0", n), strings.Repeat("1", n))
	}
	return l
}

// P11.2: indices are drawn one after the other until the cursor is over, and then no more.
func TestP11_2_Draw(t *testing.T) {
	for _, w := range lists() {
		a, rows := made(t, w), defined(w)
		for _, s := range texts() {
			c, want := reader(t, s), model{rest: s}
			for range 20 {
				draws(t, a, rows, c, &want)
			}
		}
	}
}

// P11.2: one draw begins where another table's has ended.
func TestP11_2_InTurn(t *testing.T) {
	some := [][]int64{{1, 0, 3}, {5}, {1, 1, 1}, {0, 2, 4}, repeated(64, 1), {1, api.MaxWeight}}
	for _, s := range texts() {
		for _, v := range some {
			for _, w := range some {
				c, want := reader(t, s), model{rest: s}
				for range 5 {
					draws(t, made(t, v), defined(v), c, &want)
					draws(t, made(t, w), defined(w), c, &want)
				}
			}
		}
	}
}

// failed is one try, if there is one, that draws no number below m.
func failed(m int64) string {
	if width := below.Width(uint64(m)); m < 1<<width {
		return spelt(m, width)
	}
	return ""
}

// P11.2 and P11.5: the index drawn is picked by the two numbers drawn, at once or after tries that fail, whatever bits
// are after them; with fewer bits more are needed, also where those of the index are enough.
func TestP11_5_Numbers(t *testing.T) {
	for _, w := range append(great(), tuples(3, 3)...) {
		a, rows, n := made(t, w), defined(w), int64(len(w))
		for _, r := range edges(rows, total(w)) {
			for _, i := range []int64{0, n / 2, n - 1} {
				first := failed(n) + spelt(i, below.Width(uint64(n)))
				s := first + failed(total(w)) + spelt(r, below.Width(uint64(total(w))))
				for _, tail := range []string{"", "0", "1", "0110"} {
					c := reader(t, s+tail)
					if got, is := a.Draw(c); got != picked(rows, int(i), r) || !is {
						t.Fatalf("%v: Draw on %s = %d, %t; want %d", w, s+tail, got, is, picked(rows, int(i), r))
					}
					stands(t, c, model{s, tail, false})
				}
				for few := range len(s) {
					c, want := reader(t, s[:few]), model{rest: s[:few]}
					if want.draw(rows, total(w)); !want.over {
						t.Fatalf("%v on %s: not over", w, s[:few])
					}
					if got, is := a.Draw(c); got != 0 || is {
						t.Fatalf("%v: Draw on %s = %d, %t", w, s[:few], got, is)
					}
					stands(t, c, want)
				}
			}
		}
	}
}

// P11.5: two draws of numbers, the index ahead of the number below W, pick what a draw of the table does.
func TestP11_5_Below(t *testing.T) {
	for _, w := range lists() {
		a := made(t, w)
		for _, s := range texts() {
			c, d := reader(t, s), reader(t, s)
			i, is := below.Draw(c, uint64(len(w)))
			r, also := below.Draw(c, uint64(total(w)))
			got, drawn := a.Draw(d)
			if drawn != (is && also) || d.At() != c.At() || d.Over() != c.Over() {
				t.Fatalf("%v: Draw on %q is %t, at %d", w, s, drawn, d.At())
			}
			if drawn && got != pick(t, a, int(i), int64(r)) {
				t.Fatalf("%v: Draw on %q = %d, by %d and %d", w, s, got, i, r)
			}
		}
	}
}

// P11.2 and R1: of a cursor that is over, of nil, and of one that cursor.New did not make nothing is drawn; but 0 bits
// are enough for the only number below a W of 1 with the only index.
func TestP11_2_Over(t *testing.T) {
	for _, w := range lists() {
		a, rows := made(t, w), defined(w)
		c := reader(t, "000000")
		c.Take(7)
		want := model{"", "000000", true}
		draws(t, a, rows, c, &want)
		if i, is := a.Draw(nil); i != 0 || is {
			t.Errorf("%v: Draw of nil = %d, %t", w, i, is)
		}
		want = model{}
		draws(t, a, rows, new(cursor.Cursor), &want)
		if want.over == (len(w) == 1 && w[0] == 1) {
			t.Errorf("%v: Draw on no bits: over %t", w, want.over)
		}
	}
}

// P11.2: the cost is that of both numbers.
func TestP11_2_Cost(t *testing.T) {
	for _, w := range lists() {
		first, e := below.Cost(uint64(len(w)))
		second, f := below.Cost(uint64(total(w)))
		if e != api.OK || f != api.OK {
			t.Fatal(e, f)
		}
		same(t, "Cost", made(t, w).Cost(), rat.Add(first, second))
	}
	for want, w := range map[string][]int64{
		"0": {1}, "24/5": {5}, "1": {0, 1}, "8/3": {0, 1, 0}, "2": {1, 1}, "16/3": {1, 1, 1}, "20/3": {1, 2, 3}, "12": repeated(64, 1),
		"45088769/1048577": {1, api.MaxWeight}, "32": repeated(64, api.MaxWeight), "20": {api.MaxWeight},
	} {
		if got := rat.Show(made(t, w).Cost()); got != want {
			t.Errorf("%v: Cost %s; want %s", w, got, want)
		}
	}
}

// P11.2 and P11.3: an index is picked by its weight times Len of all pairs, and its share is that over all of them.
func TestP11_3_Pairs(t *testing.T) {
	for _, w := range append(small(), repeated(64, 1), []int64{1000, 0, 0, 12345, 1, 65536}) {
		a, counts := made(t, w), repeated(len(w), 0)
		for i := range a.Len() {
			for r := range a.Sum() {
				counts[pick(t, a, i, r)]++
			}
		}
		for i, weight := range w {
			if counts[i] != weight*int64(len(w)) {
				t.Fatalf("%v: %d is picked by %d pairs", w, i, counts[i])
			}
			same(t, "Share", share(t, a, i), over(counts[i], int64(len(w))*total(w)))
		}
	}
}

// P11.3: the share is the weight over W, as by the weights themselves, and all shares add up to 1.
func TestP11_3_Share(t *testing.T) {
	for _, w := range lists() {
		a := made(t, w)
		f, e := freq.New(w)
		if e != api.OK {
			t.Fatal(e)
		}
		var shares []api.Rat
		for i, weight := range w {
			p := share(t, a, i)
			same(t, "Share", p, over(weight, total(w)))
			q, _ := f.Share(i)
			same(t, "by the weights", p, q)
			shares = append(shares, p)
		}
		same(t, "the sum", rat.Sum(shares...), rat.Of(1))
	}
}

// P11.3: as many pairs as it says pick each index of tables whose pairs are too many to be gone over.
func TestP11_3_Great(t *testing.T) {
	for _, w := range great() {
		a, counts := made(t, w), repeated(len(w), 0)
		for i := range w {
			cut := cutOf(t, a, i)
			counts[i] += cut
			counts[otherOf(t, a, i)] += total(w) - cut
		}
		for i, weight := range w {
			if counts[i] != weight*int64(len(w)) {
				t.Fatalf("%v: %d is picked by %d pairs", w, i, counts[i])
			}
		}
	}
}

// P11.4: cuts are from 0 to W; what is its own alias has the cut W, nothing else has; at most Len - 1 are below W.
func TestP11_4_Cuts(t *testing.T) {
	for _, w := range lists() {
		a, under := made(t, w), 0
		for i := range w {
			cut, other := cutOf(t, a, i), otherOf(t, a, i)
			if cut < 0 || cut > a.Sum() || other < 0 || other >= len(w) || (other == i) != (cut == a.Sum()) {
				t.Fatalf("%v: index %d has the cut %d and the alias %d", w, i, cut, other)
			}
			if cut < a.Sum() {
				under++
			}
		}
		if under > len(w)-1 {
			t.Fatalf("%v: %d cuts below W", w, under)
		}
	}
}

// P11.4: each index is picked by as many numbers with itself as its cut says: the first ones.
func TestP11_4_Itself(t *testing.T) {
	for _, w := range small() {
		a := made(t, w)
		for i := range w {
			n := int64(0)
			for n < a.Sum() && pick(t, a, i, n) == i {
				n++
			}
			if n != cutOf(t, a, i) {
				t.Fatalf("%v: %d is picked by %d numbers with itself", w, i, n)
			}
			for r := n; r < a.Sum(); r++ {
				if got := pick(t, a, i, r); got == i || got != otherOf(t, a, i) {
					t.Fatalf("%v: Pick(%d, %d) = %d", w, i, r, got)
				}
			}
		}
	}
}

// P11.6: all weights, multiplied by the same number, have the same aliases, and the cuts multiplied.
func TestP11_6(t *testing.T) {
	for _, w := range lists() {
		a, most := made(t, w), api.MaxWeight/slices.Max(w)
		for _, factor := range []int64{2, 3, 7, 64, 1000, most - 1, most} {
			if factor < 1 || factor > most {
				continue
			}
			scaled, rows := slices.Clone(w), []row{}
			for i := range scaled {
				scaled[i] *= factor
				rows = append(rows, row{factor * cutOf(t, a, i), otherOf(t, a, i)})
			}
			b := made(t, scaled)
			has(t, b, scaled, rows)
			for i := range w {
				same(t, "Share", share(t, b, i), share(t, a, i))
			}
		}
	}
}

// P11.7 and P3: among the strings of n bits on which an index is drawn, if there are any, the proportion is its share;
// as P5 says, that of all strings never exceeds the share.
func TestP11_7(t *testing.T) {
	for _, w := range [][]int64{{1}, {5}, {0, 1}, {1, 1}, {1, 3}, {1, 0, 3}, {2, 1}, {1, 2, 3}, {5, 0, 0, 2}, {3, 3, 3}, {0, 10, 1, 0}, {20, 1, 3}, {1, 1, 4, 4}, repeated(9, 1), repeated(64, 1), {1000, 24, 0, 1}} {
		a, least := made(t, w), below.Width(uint64(len(w)))+below.Width(uint64(total(w)))
		for n := range api.MaxTree + 1 {
			counts, all := repeated(len(w), 0), int64(0)
			for s := range bits.All(n) {
				if i, is := a.Draw(reader(t, s)); is {
					counts[i]++
					all++
				}
			}
			if (all > 0) != (n >= least) {
				t.Fatalf("%v on %d bits: drawn on %d strings", w, n, all)
			}
			for i, count := range counts {
				p := share(t, a, i)
				if all > 0 && !rat.Same(over(count, all), p) || rat.Cmp(over(count, 1<<n), p) > 0 {
					t.Fatalf("%v on %d bits: %d on %d of %d strings", w, n, i, count, all)
				}
			}
		}
	}
}

// P11.8: the slice passed to New may be overwritten.
func TestP11_8(t *testing.T) {
	for _, w := range lists() {
		passed := slices.Clone(w)
		a := made(t, passed)
		for i := range passed {
			passed[i] = 1<<40 + int64(i)
		}
		has(t, a, w, defined(w))
		for i := range w {
			same(t, "Share", share(t, a, i), over(w[i], total(w)))
		}
	}
}

// R3: the weights, and what lies behind them, are not modified, whether they are refused or not; no table is changed by
// another one, or by a call that is refused, or by a draw.
func TestR3_Arguments(t *testing.T) {
	for _, w := range append(lists(), []int64{0, 0}, []int64{1, 2, -1}, repeated(api.MaxItems+1, 1)) {
		passed := append(slices.Clone(w), -5, 6, -7)
		kept := slices.Clone(passed)
		a, _ := New(passed[:len(w)])
		b := made(t, []int64{1, 2, 3})
		a.Pick(0, -1)
		a.Cut(-1)
		a.Share(-1)
		a.Draw(reader(t, strings.Repeat("01", 64)))
		if !slices.Equal(passed, kept) {
			t.Fatalf("%v is now %v", kept, passed)
		}
		if a != nil {
			has(t, a, w, defined(w))
		}
		has(t, b, []int64{1, 2, 3}, []row{{3, 2}, {6, 1}, {6, 2}})
	}
}

// R3: results share no memory with anything that is kept: overwritten, they do not change a later one.
func TestR3_NewMemory(t *testing.T) {
	for _, a := range []*Table{nil, {}, made(t, []int64{1}), made(t, []int64{1, 0, 3}), made(t, repeated(64, 3)), made(t, []int64{api.MaxWeight, 1})} {
		results := []func() api.Rat{a.Cost}
		for i := range a.Len() {
			results = append(results, func() api.Rat { return share(t, a, i) })
		}
		for _, result := range results {
			first := result()
			want := rat.Show(first)
			for _, limbs := range []api.Nat{first.Num.Mag, first.Den} {
				limbs = limbs[:cap(limbs)]
				for i := range limbs {
					limbs[i] = 0x5555555555555555
				}
			}
			if got := rat.Show(result()); got != want {
				t.Errorf("%s; before %s", got, want)
			}
		}
	}
}
