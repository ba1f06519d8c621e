package perm

import (
	"math"
	"slices"
	"strconv"
	"strings"
	"testing"

	"tombola/api"
	"tombola/below"
	"tombola/bits"
	"tombola/cursor"
	"tombola/rat"
)

// scramble makes words without pattern, always the same ones.
func scramble(x *uint64) uint64 {
	*x ^= *x << 13
	*x ^= *x >> 7
	*x ^= *x << 17
	return *x
}

// counted are the numbers from 0 to n - 1.
func counted(n int) []int {
	var l []int
	for i := 0; i < n; i++ {
		l = append(l, i)
	}
	return l
}

// all are all choices of draws for n elements, counted up from the last draw.
func all(n int) [][]int {
	l := [][]int{nil}
	for m := n; m > 1; m-- {
		var next [][]int
		for _, draws := range l {
			for j := range m {
				next = append(next, append(slices.Clone(draws), j))
			}
		}
		l = next
	}
	return l
}

// mixed are draws for n elements without pattern.
func mixed(n int, x *uint64) []int {
	var l []int
	for m := n; m > 1; m-- {
		l = append(l, int(scramble(x)%uint64(m)))
	}
	return l
}

// greatest are the greatest possible draws for n elements.
func greatest(n int) []int {
	var l []int
	for m := n; m > 1; m-- {
		l = append(l, m-1)
	}
	return l
}

// zeros are n - 1 draws of 0.
func zeros(n int) []int {
	return make([]int, n-1)
}

// choices are all draws for few elements, and some for many.
func choices() [][]int {
	var l [][]int
	for n := 1; n <= 6; n++ {
		l = append(l, all(n)...)
	}
	x := uint64(88172645463325252)
	for n := 1; n <= api.MaxItems; n++ {
		l = append(l, greatest(n), zeros(n), mixed(n, &x), mixed(n, &x))
	}
	for k := range api.MaxItems - 1 { // only one element moves, and every other one would not
		least, most := zeros(api.MaxItems), greatest(api.MaxItems)
		least[k], most[k] = api.MaxItems-1-k, 0
		l = append(l, least, most)
	}
	return l
}

// shuffled goes by the definition, with elements that are looked up by their index: for i from n - 1 down to 1, those at
// i and j are swapped.
func shuffled(n int, draws []int) []int {
	at := map[int]int{}
	for i := range n {
		at[i] = i
	}
	for i := n - 1; i >= 1; i-- {
		j := draws[n-1-i]
		last := at[i]
		at[i] = at[j]
		at[j] = last
	}
	var row []int
	for i := range n {
		row = append(row, at[i])
	}
	return row
}

// rowOf is the arrangement of draws that are not refused.
func rowOf(t *testing.T, draws []int) []int {
	t.Helper()
	row, e := Row(draws)
	if e != api.OK {
		t.Fatalf("Row(%v) = %v, error %d", draws, row, e)
	}
	return row
}

// drawsOf are the draws of an arrangement that is not refused.
func drawsOf(t *testing.T, row []int) []int {
	t.Helper()
	draws, e := Draws(row)
	if e != api.OK {
		t.Fatalf("Draws(%v) = %v, error %d", row, draws, e)
	}
	return draws
}

// costOf is the cost for a number of elements that is not refused.
func costOf(t *testing.T, n int) api.Rat {
	t.Helper()
	cost, e := Cost(n)
	if e != api.OK || !rat.May(cost) {
		t.Fatalf("Cost(%d) = %v, error %d", n, cost, e)
	}
	return cost
}

// reader is a cursor of a bit string.
func reader(t *testing.T, s string) *cursor.Cursor {
	t.Helper()
	c, e := cursor.New(s)
	if c == nil || e != api.OK {
		t.Fatalf("cursor.New(%q) = %v, error %d", s, c, e)
	}
	return c
}

// same holds two fractions against each other, part by part.
func same(t *testing.T, what string, got, want api.Rat) {
	t.Helper()
	if got.Num.Neg != want.Num.Neg || !slices.Equal(got.Num.Mag, want.Num.Mag) || !slices.Equal(got.Den, want.Den) {
		t.Fatalf("%s: %v; want %v", what, got, want)
	}
}

// over is a fraction of two numbers, the second one not 0.
func over(n, d int64) api.Rat {
	p, _ := rat.Over(n, d)
	return p
}

// factorial is how many arrangements of n elements there are.
func factorial(n int) int64 {
	product := int64(1)
	for i := range n {
		product *= int64(i) + 1
	}
	return product
}

// spelt is n, which has no more bits, in so many of them.
func spelt(n, width int) string {
	if width == 0 {
		return ""
	}
	s := strconv.FormatInt(int64(n), 2)
	return strings.Repeat("0", width-len(s)) + s
}

// failed is one try, if there is one, that draws no number below m.
func failed(m int) string {
	if width := below.Width(uint64(m)); m < 1<<width {
		return spelt(m, width)
	}
	return ""
}

// told are the bits on which these draws are drawn; before each of them so many tries fail.
func told(draws []int, tries int) string {
	s := ""
	for k, j := range draws {
		m := len(draws) + 1 - k
		s += strings.Repeat(failed(m), tries) + spelt(j, below.Width(uint64(m)))
	}
	return s
}

// model is what a cursor should be: the bits that have been read, those that have not, and whether it is over.
type model struct {
	read, rest string
	over       bool
}

// number is a number below m, drawn by texts and by the definition.
func (c *model) number(m int) (int, bool) {
	width := below.Width(uint64(m))
	for !c.over {
		if width > len(c.rest) {
			c.over = true
			break
		}
		r, _ := strconv.ParseInt("0"+c.rest[:width], 2, 64)
		c.read, c.rest = c.read+c.rest[:width], c.rest[width:]
		if int(r) < m {
			return int(r), true
		}
	}
	return 0, false
}

// draw draws all numbers for n elements.
func (c *model) draw(n int) ([]int, bool) {
	var draws []int
	for m := n; m > 1; m-- {
		j, is := c.number(m)
		if !is {
			return nil, false
		}
		draws = append(draws, j)
	}
	return shuffled(n, draws), true
}

// stands holds all that a cursor tells of itself against what it should.
func stands(t *testing.T, c *cursor.Cursor, want model) {
	t.Helper()
	if c.At() != len(want.read) || c.Left() != len(want.rest) || c.Rest() != want.rest || c.Over() != want.over {
		t.Fatalf("at %d, left %d, rest %q, over %t; want %+v", c.At(), c.Left(), c.Rest(), c.Over(), want)
	}
}

// draws draws an arrangement, and holds the answer and the cursor against what they should be.
func draws(t *testing.T, n int, c *cursor.Cursor, want *model) {
	t.Helper()
	was := *want
	row, is := want.draw(n)
	if got, drawn := Draw(c, n); !slices.Equal(got, row) || drawn != is {
		t.Fatalf("Draw of %d at %+v = %v, %t; want %v, %t", n, was, got, drawn, row, is)
	}
	stands(t, c, *want)
}

// texts are all bit strings of few bits, and long ones.
func texts() []string {
	var l []string
	for n := range 8 {
		l = slices.AppendSeq(l, bits.All(n))
	}
	x := uint64(88172645463325252)
	for _, n := range []int{63, 64, 65, 200, 400, 600, api.MaxBits} {
		mixed := make([]byte, n)
		for i := range mixed {
			mixed[i] = '0' + byte(scramble(&x)>>40&1)
		}
		l = append(l, string(mixed), strings.Repeat("0", n), strings.Repeat("1", n))
	}
	return l
}

// outside are numbers of elements that there are none of.
func outside() []int {
	return []int{-1, -2, -64, math.MinInt, math.MinInt + 1, api.MaxItems + 1, 100, 255, 256, 257, 1 << 16, 1 << 32, 1<<32 + 2, math.MaxInt - 1, math.MaxInt}
}

// The chapter's examples.
func TestExamples(t *testing.T) {
	if row := rowOf(t, []int{0, 0}); !slices.Equal(row, []int{1, 2, 0}) {
		t.Errorf("Row of 0, 0: %v", row)
	}
	if row := rowOf(t, []int{2, 1}); !slices.Equal(row, []int{0, 1, 2}) {
		t.Errorf("Row of 2, 1: %v", row)
	}
	if draws := drawsOf(t, []int{2, 0, 1}); !slices.Equal(draws, []int{1, 0}) {
		t.Errorf("Draws of 2 0 1: %v", draws)
	}
	if draws, e := Draws([]int{0, 0}); draws != nil || e != api.ErrForm {
		t.Errorf("Draws of 0 0: %v, error %d", draws, e)
	}
	c := reader(t, "000")
	if row, is := Draw(c, 3); !slices.Equal(row, []int{1, 2, 0}) || !is || c.At() != 3 || c.Over() {
		t.Errorf("Draw of 3 on 000: %v, %t, at %d, over %t", row, is, c.At(), c.Over())
	}
	c = reader(t, "11")
	if row, is := Draw(c, 3); row != nil || is || !c.Over() {
		t.Errorf("Draw of 3 on 11: %v, %t, over %t", row, is, c.Over())
	}
	if three, one := rat.Show(costOf(t, 3)), rat.Show(costOf(t, 1)); three != "11/3" || one != "0" {
		t.Errorf("Cost(3) %s, Cost(1) %s", three, one)
	}
}

// P12.1: arrangements reckoned by hand.
func TestP12_1_ByHand(t *testing.T) {
	for _, x := range []struct{ draws, row []int }{
		{nil, []int{0}},
		{[]int{}, []int{0}},
		{[]int{0}, []int{1, 0}},
		{[]int{1}, []int{0, 1}},
		{[]int{0, 0}, []int{1, 2, 0}},
		{[]int{0, 1}, []int{2, 1, 0}},
		{[]int{1, 0}, []int{2, 0, 1}},
		{[]int{1, 1}, []int{0, 2, 1}},
		{[]int{2, 0}, []int{1, 0, 2}},
		{[]int{2, 1}, []int{0, 1, 2}},
		{[]int{0, 0, 0}, []int{1, 2, 3, 0}},
		{[]int{3, 0, 1}, []int{2, 1, 0, 3}},
		{[]int{1, 1, 0}, []int{2, 0, 3, 1}},
		{[]int{2, 0, 1}, []int{3, 1, 0, 2}},
		{[]int{0, 2, 0}, []int{1, 3, 2, 0}},
		{[]int{1, 3, 0, 1}, []int{2, 4, 0, 3, 1}},
	} {
		if row := rowOf(t, x.draws); !slices.Equal(row, x.row) {
			t.Errorf("Row(%v) = %v; want %v", x.draws, row, x.row)
		}
		if draws := drawsOf(t, x.row); !slices.Equal(draws, x.draws) {
			t.Errorf("Draws(%v) = %v; want %v", x.row, draws, x.draws)
		}
	}
}

// P12.1: arrangements are those of the definition, of one more element than there are draws.
func TestP12_1_Row(t *testing.T) {
	for _, draws := range choices() {
		row, want := rowOf(t, draws), shuffled(len(draws)+1, draws)
		if !slices.Equal(row, want) || len(row) != len(draws)+1 {
			t.Fatalf("Row(%v) = %v; want %v", draws, row, want)
		}
	}
}

// P12.1: the draws of an arrangement are those that the definition leads to it by.
func TestP12_1_Draws(t *testing.T) {
	for _, draws := range choices() {
		if got := drawsOf(t, shuffled(len(draws)+1, draws)); !slices.Equal(got, draws) {
			t.Fatalf("Draws of what %v yield = %v", draws, got)
		}
	}
}

// P12.1: no draws yield the arrangement of no elements, as they do that of one.
func TestP12_1_Few(t *testing.T) {
	for _, row := range [][]int{nil, {}, {0}} {
		if draws, e := Draws(row); len(draws) != 0 || e != api.OK {
			t.Errorf("Draws(%v) = %v, error %d", row, draws, e)
		}
	}
}

// put is a list of draws, or of elements, with another value at one place.
func put(l []int, k, value int) []int {
	l = slices.Clone(l)
	l[k] = value
	return l
}

// The errors of Row, and R2: too many draws ahead of bad ones; each draw is held against its own bound.
func TestP12_1_RowRefused(t *testing.T) {
	for _, x := range []struct {
		draws []int
		want  api.Errno
	}{
		{make([]int, api.MaxItems), api.ErrLong},
		{make([]int, api.MaxItems+1), api.ErrLong},
		{make([]int, 100000), api.ErrLong},
		{greatest(api.MaxItems + 1), api.ErrLong},
		{slices.Repeat([]int{-1}, api.MaxItems), api.ErrLong},
		{slices.Repeat([]int{1000}, api.MaxItems), api.ErrLong},
		{[]int{-1}, api.ErrArg},
		{[]int{2}, api.ErrArg},
		{[]int{math.MinInt}, api.ErrArg},
		{[]int{math.MaxInt}, api.ErrArg},
		{[]int{1 << 32}, api.ErrArg},
		{[]int{256}, api.ErrArg},
		{[]int{3, 0}, api.ErrArg},
		{[]int{2, 2}, api.ErrArg}, // which is below the bound of the first one
		{[]int{0, -1}, api.ErrArg},
		{[]int{0, 2}, api.ErrArg},
		{[]int{-1, 5}, api.ErrArg},
		{[]int{0, 1, 2}, api.ErrArg}, // in the order of bounds that rise
		{counted(api.MaxItems - 1), api.ErrArg},
	} {
		if row, e := Row(x.draws); row != nil || e != x.want {
			t.Errorf("Row(%v) = %v, error %d; want error %d", x.draws, row, e, x.want)
		}
	}
	for _, n := range []int{2, 3, 4, 5, 17, 63, api.MaxItems} {
		for k := range n - 1 {
			for _, base := range [][]int{zeros(n), greatest(n)} {
				for _, value := range []int{n - k, n - k + 1, api.MaxItems, -1, -n, math.MinInt, math.MaxInt, 1<<32 + 1} {
					if row, e := Row(put(base, k, value)); row != nil || e != api.ErrArg {
						t.Errorf("%d elements, draw %d is %d: %v, error %d", n, k, value, row, e)
					}
				}
				rowOf(t, put(base, k, n-k-1))
			}
		}
	}
}

// The errors of Draws, and R2: too many elements ahead of those of which not each occurs once.
func TestP12_1_DrawsRefused(t *testing.T) {
	for _, x := range []struct {
		row  []int
		want api.Errno
	}{
		{counted(api.MaxItems + 1), api.ErrLong},
		{counted(100000), api.ErrLong},
		{make([]int, api.MaxItems+1), api.ErrLong},
		{slices.Repeat([]int{-1}, api.MaxItems+1), api.ErrLong},
		{[]int{1}, api.ErrForm},
		{[]int{-1}, api.ErrForm},
		{[]int{math.MinInt}, api.ErrForm},
		{[]int{math.MaxInt}, api.ErrForm},
		{[]int{1 << 32}, api.ErrForm},
		{[]int{0, 0}, api.ErrForm},
		{[]int{1, 1}, api.ErrForm},
		{[]int{1, 2}, api.ErrForm},
		{[]int{0, 2}, api.ErrForm},
		{[]int{2, 0}, api.ErrForm},
		{[]int{0, -1}, api.ErrForm},
		{[]int{-1, 0}, api.ErrForm},
		{[]int{0, 3, 0}, api.ErrForm},
		{[]int{1, 1, 1}, api.ErrForm}, // as many together as 0 1 2
		{[]int{0, 1, 1}, api.ErrForm},
		{[]int{1, 2, 3}, api.ErrForm},
		{[]int{-1, 0, 1}, api.ErrForm},
		{make([]int, api.MaxItems), api.ErrForm},
		{counted(api.MaxItems + 1)[1:], api.ErrForm},
	} {
		if draws, e := Draws(x.row); draws != nil || e != x.want {
			t.Errorf("Draws(%v) = %v, error %d; want error %d", x.row, draws, e, x.want)
		}
	}
	x := uint64(88172645463325252)
	for _, n := range []int{2, 3, 4, 5, 17, 63, api.MaxItems} {
		row := rowOf(t, mixed(n, &x))
		for k := range n {
			for _, value := range []int{row[(k+1)%n], row[(k+n-1)%n], n, n + 1, -1, math.MinInt, math.MaxInt, 1<<32 + row[k], row[k] - 256, row[k] + 64} {
				if draws, e := Draws(put(row, k, value)); draws != nil || e != api.ErrForm {
					t.Errorf("%v, %d at %d: %v, error %d", row, value, k, draws, e)
				}
			}
		}
		drawsOf(t, row)
	}
}

// P12.2: arrangements of the same and of other numbers of elements are drawn one after the other, until the cursor is over.
func TestP12_2_Draw(t *testing.T) {
	for _, s := range texts() {
		for n := range api.MaxItems + 1 {
			c, want := reader(t, s), model{rest: s}
			for range 4 {
				draws(t, n, c, &want)
			}
			draws(t, 3, c, &want)
			draws(t, 1, c, &want)
			draws(t, n/2, c, &want)
			draws(t, 0, c, &want)
		}
	}
}

// P12.2: with the bits of the draws, at once or after tries that fail, the arrangement is theirs, whatever bits are after
// them; with fewer bits more are needed, and the cursor is over.
func TestP12_2_Numbers(t *testing.T) {
	x := uint64(88172645463325252)
	for n := 1; n <= api.MaxItems; n++ {
		for _, chosen := range [][]int{zeros(n), greatest(n), mixed(n, &x)} {
			for tries := range 3 {
				s := told(chosen, tries)
				if len(s) > api.MaxBits-4 {
					continue
				}
				for _, tail := range []string{"", "0", "1", "0110"} {
					c := reader(t, s+tail)
					if row, is := Draw(c, n); !slices.Equal(row, shuffled(n, chosen)) || !is {
						t.Fatalf("Draw of %d on %s = %v, %t; want that of %v", n, s+tail, row, is, chosen)
					}
					stands(t, c, model{s, tail, false})
				}
				for few := range len(s) {
					c, want := reader(t, s[:few]), model{rest: s[:few]}
					if want.draw(n); !want.over {
						t.Fatalf("%d on %s: not over", n, s[:few])
					}
					if row, is := Draw(c, n); row != nil || is {
						t.Fatalf("Draw of %d on %s = %v, %t", n, s[:few], row, is)
					}
					stands(t, c, want)
				}
			}
		}
	}
}

// P12.2: each draw is drawn by below.Draw, and yields what Row does.
func TestP12_2_Below(t *testing.T) {
	for _, s := range texts() {
		for n := 1; n <= api.MaxItems; n++ {
			c, d := reader(t, s), reader(t, s)
			var chosen []int
			for m := n; m > 1; m-- {
				if j, is := below.Draw(c, uint64(m)); is {
					chosen = append(chosen, int(j))
				}
			}
			row, is := Draw(d, n)
			if is != (len(chosen) == n-1) || d.At() != c.At() || d.Over() != c.Over() {
				t.Fatalf("Draw of %d on %q is %t, at %d", n, s, is, d.At())
			}
			if is && !slices.Equal(row, rowOf(t, chosen)) {
				t.Fatalf("Draw of %d on %q = %v, by %v", n, s, row, chosen)
			}
		}
	}
}

// P12.2, the error and R1: of no such number of elements nothing is drawn, nor read, and there is no cost.
func TestP12_2_Outside(t *testing.T) {
	for _, n := range outside() {
		for _, s := range []string{"", "0", "0110", strings.Repeat("0", api.MaxBits)} {
			c := reader(t, s)
			for range 2 {
				if row, is := Draw(c, n); row != nil || is {
					t.Errorf("Draw of %d = %v, %t", n, row, is)
				}
				stands(t, c, model{rest: s})
			}
		}
		if row, is := Draw(nil, n); row != nil || is {
			t.Errorf("Draw of %d of nil = %v, %t", n, row, is)
		}
		cost, e := Cost(n)
		if e != api.ErrArg {
			t.Errorf("Cost(%d): error %d", n, e)
		}
		same(t, "beside the error", cost, api.Rat{})
	}
}

// P12.2 and R1: of a cursor that is over, of nil, and of one that cursor.New did not make, no number is drawn; but none is
// drawn for no elements, or for one.
func TestP12_2_Over(t *testing.T) {
	for n := range api.MaxItems + 1 {
		c := reader(t, "000000")
		c.Take(7)
		draws(t, n, c, &model{"", "000000", true})
		draws(t, n, new(cursor.Cursor), &model{})
		row, is := Draw(nil, n)
		if n < 2 && !(is && slices.Equal(row, counted(n))) || n > 1 && (is || row != nil) {
			t.Errorf("Draw of %d of nil = %v, %t", n, row, is)
		}
	}
}

// P12.2: the cost is the sum of those of all draws.
func TestP12_2_Cost(t *testing.T) {
	same(t, "Cost(0)", costOf(t, 0), rat.Of(0))
	sum := rat.Of(0)
	for n := 1; n <= api.MaxItems; n++ {
		cost, e := below.Cost(uint64(n))
		if e != api.OK {
			t.Fatal(e)
		}
		sum = rat.Add(sum, cost)
		same(t, "Cost", costOf(t, n), sum)
	}
	for n, want := range []string{"0", "0", "1", "11/3", "17/3", "157/15", "217/15", "1879/105", "2194/105", "8822/315", "10838/315"} {
		if got := rat.Show(costOf(t, n)); got != want {
			t.Errorf("Cost(%d) = %s; want %s", n, got, want)
		}
	}
}

// P12.3: Row of Draws is the arrangement, and Draws of Row are the draws.
func TestP12_3_ThereAndBack(t *testing.T) {
	for _, draws := range choices() {
		row := rowOf(t, draws)
		back := drawsOf(t, row)
		if !slices.Equal(back, draws) {
			t.Fatalf("Draws of Row(%v) = %v", draws, back)
		}
		if again := rowOf(t, back); !slices.Equal(again, row) {
			t.Fatalf("Row of Draws(%v) = %v", row, again)
		}
	}
}

// insertions are all arrangements of n elements, made of those of one less by putting the last one everywhere.
func insertions(n int) [][]int {
	l := [][]int{{}}
	for i := range n {
		var next [][]int
		for _, row := range l {
			for at := range i + 1 {
				next = append(next, slices.Insert(slices.Clone(row), at, i))
			}
		}
		l = next
	}
	return l
}

// P12.3: each arrangement results from exactly one choice of draws.
func TestP12_3_Bijection(t *testing.T) {
	for n := 1; n <= 7; n++ {
		var rows [][]int
		for _, draws := range all(n) {
			rows = append(rows, rowOf(t, draws))
		}
		want := insertions(n)
		slices.SortFunc(rows, slices.Compare)
		slices.SortFunc(want, slices.Compare)
		if !slices.EqualFunc(rows, want, slices.Equal) {
			t.Fatalf("%d elements: %d arrangements, not each of %d once", n, len(rows), len(want))
		}
		for _, row := range want {
			if again := rowOf(t, drawsOf(t, row)); !slices.Equal(again, row) {
				t.Fatalf("Row of Draws(%v) = %v", row, again)
			}
		}
	}
}

// P12.3 and P3: among the strings of n bits on which an arrangement is drawn, if there are any, each has its share, which
// is one of all arrangements; as P5 says, that of all strings never exceeds the share.
func TestP12_3_Uniform(t *testing.T) {
	for elements := range 8 {
		least, p := 0, over(1, factorial(elements))
		for m := elements; m > 1; m-- {
			least += below.Width(uint64(m))
		}
		for n := range api.MaxTree + 1 {
			counts, drawn := map[string]int64{}, int64(0)
			for s := range bits.All(n) {
				if row, is := Draw(reader(t, s), elements); is {
					name := ""
					for _, element := range row {
						name += strconv.Itoa(element)
					}
					counts[name]++
					drawn++
				}
			}
			if (drawn > 0) != (n >= least) || drawn > 0 && int64(len(counts)) != factorial(elements) {
				t.Fatalf("%d elements on %d bits: %d arrangements on %d strings", elements, n, len(counts), drawn)
			}
			for name, count := range counts {
				if !rat.Same(over(count, drawn), p) || rat.Cmp(over(count, 1<<n), p) > 0 {
					t.Fatalf("%d elements on %d bits: %s on %d of %d strings", elements, n, name, count, drawn)
				}
			}
		}
	}
}

// P12.2 and P7: among all strings of n bits the mean number of bits that are read, counting all for those that need more,
// never exceeds the cost, and comes ever nearer; the proportion of those that need more is at most the cost over n.
func TestP12_2_Mean(t *testing.T) {
	for elements := range 7 {
		cost, last := costOf(t, elements), rat.Of(0)
		for n := 1; n <= api.MaxTree; n++ {
			read, more := int64(0), int64(0)
			for s := range bits.All(n) {
				c := reader(t, s)
				if _, is := Draw(c, elements); is {
					read += int64(c.At())
				} else {
					read += int64(n)
					more++
				}
			}
			mean, most := over(read, 1<<n), rat.Mul(cost, over(1, int64(n)))
			if rat.Cmp(mean, cost) > 0 || rat.Cmp(mean, last) < 0 || rat.Cmp(over(more, 1<<n), most) > 0 {
				t.Fatalf("%d elements on %d bits: mean %s of %s, %d need more", elements, n, rat.Show(mean), rat.Show(cost), more)
			}
			last = mean
		}
	}
}

// P12.4: each element occurs once, however the arrangement is made.
func TestP12_4(t *testing.T) {
	once := func(row []int, n int) {
		t.Helper()
		sorted := slices.Clone(row)
		slices.Sort(sorted)
		if !slices.Equal(sorted, counted(n)) {
			t.Fatalf("%d elements: %v", n, row)
		}
	}
	for _, draws := range choices() {
		once(rowOf(t, draws), len(draws)+1)
	}
	for _, s := range texts() {
		for n := range api.MaxItems + 1 {
			if row, is := Draw(reader(t, s), n); is {
				once(row, n)
			}
		}
	}
}

// P12.5: the first draw determines the last element; the other draws arrange what is left, in which the last element
// stands where the first draw took its element away.
func TestP12_5(t *testing.T) {
	for _, draws := range choices() {
		if len(draws) == 0 {
			continue
		}
		row, n := rowOf(t, draws), len(draws)+1
		if row[n-1] != draws[0] {
			t.Fatalf("Row(%v) = %v", draws, row)
		}
		left := counted(n)
		left[draws[0]] = n - 1
		for i, at := range rowOf(t, draws[1:]) {
			if row[i] != left[at] {
				t.Fatalf("Row(%v) = %v, but of %v the others make %v", draws, row, left, rowOf(t, draws[1:]))
			}
		}
	}
}

// P12.6: the greatest draws move nothing; draws of 0 move the first element to the end.
func TestP12_6(t *testing.T) {
	for n := 1; n <= api.MaxItems; n++ {
		turned := append(counted(n)[1:], 0)
		if row := rowOf(t, greatest(n)); !slices.Equal(row, counted(n)) {
			t.Errorf("Row(%v) = %v", greatest(n), row)
		}
		if row := rowOf(t, zeros(n)); !slices.Equal(row, turned) {
			t.Errorf("Row of %d 0s = %v", n-1, row)
		}
		if draws := drawsOf(t, counted(n)); !slices.Equal(draws, greatest(n)) {
			t.Errorf("Draws(%v) = %v", counted(n), draws)
		}
		if draws := drawsOf(t, turned); !slices.Equal(draws, zeros(n)) {
			t.Errorf("Draws(%v) = %v", turned, draws)
		}
		if row, is := Draw(reader(t, strings.Repeat("0", api.MaxBits)), n); !is || !slices.Equal(row, turned) {
			t.Errorf("Draw of %d on 0s = %v, %t", n, row, is)
		}
	}
}

// spoil overwrites all that a result could share with another one.
func spoil(l []int) {
	l = l[:cap(l)]
	for i := range l {
		l[i] = -5 - i
	}
}

// P12.7 and R3: results may be overwritten: they share no memory with the arguments, nor with another result.
func TestP12_7(t *testing.T) {
	for _, draws := range choices() {
		passed := slices.Clone(draws)
		row := rowOf(t, passed)
		kept := slices.Clone(row)
		spoil(row)
		if again := rowOf(t, draws); !slices.Equal(again, kept) || !slices.Equal(passed, draws) {
			t.Fatalf("Row(%v) = %v, after %v", passed, again, kept)
		}
		other := slices.Clone(kept)
		back := drawsOf(t, other)
		spoil(back)
		if again := drawsOf(t, kept); !slices.Equal(again, draws) || !slices.Equal(other, kept) {
			t.Fatalf("Draws(%v) = %v, after %v", other, again, draws)
		}
		c := reader(t, told(draws, 0))
		drawn, _ := Draw(c.Copy(), len(draws)+1)
		spoil(drawn)
		if again, is := Draw(c, len(draws)+1); !is || !slices.Equal(again, kept) {
			t.Fatalf("Draw = %v, %t; want %v", again, is, kept)
		}
	}
}

// P12.7 and R3: the same of costs.
func TestP12_7_Cost(t *testing.T) {
	for n := range api.MaxItems + 1 {
		first := costOf(t, n)
		want := rat.Show(first)
		for _, limbs := range []api.Nat{first.Num.Mag, first.Den} {
			limbs = limbs[:cap(limbs)]
			for i := range limbs {
				limbs[i] = 0x5555555555555555
			}
		}
		if got := rat.Show(costOf(t, n)); got != want {
			t.Errorf("Cost(%d) = %s; before %s", n, got, want)
		}
	}
}

// R3: arguments, and what lies behind them, are not modified, whether they are refused or not.
func TestR3_Arguments(t *testing.T) {
	for _, l := range append(choices(), []int{-1}, []int{0, 2}, []int{0, 0, 0}, counted(api.MaxItems), counted(api.MaxItems+1), zeros(100)) {
		passed := append(slices.Clone(l), -5, 6, -7)
		kept := slices.Clone(passed)
		row, e := Row(passed[:len(l)])
		if !slices.Equal(passed, kept) {
			t.Fatalf("%v is now %v", kept, passed)
		}
		if e == api.OK {
			passed = append(row, -5, 6, -7)
			kept = slices.Clone(passed)
		}
		Draws(passed[:len(passed)-3])
		if !slices.Equal(passed, kept) {
			t.Fatalf("%v is now %v", kept, passed)
		}
	}
}
