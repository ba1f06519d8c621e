package cursor

import (
	"math"
	"strconv"
	"strings"
	"testing"
	"unsafe"

	"tombola/api"
	"tombola/bits"
)

// scramble makes words without pattern, always the same ones.
func scramble(x *uint64) uint64 {
	*x ^= *x << 13
	*x ^= *x >> 7
	*x ^= *x << 17
	return *x
}

// upTo are all bit strings of at most so many bits.
func upTo(width int) []string {
	l, from := []string{""}, 0
	for range width {
		to := len(l)
		for _, s := range l[from:to] {
			l = append(l, s+"0", s+"1")
		}
		from = to
	}
	return l
}

// long are bit strings at the edges of a word and of MaxBits, and some without pattern.
func long() []string {
	var l []string
	x := uint64(88172645463325252)
	for _, n := range []int{63, 64, 65, 127, 128, 129, 1000, api.MaxBits - 1, api.MaxBits} {
		mixed := make([]byte, n)
		for i := range mixed {
			mixed[i] = '0' + byte(scramble(&x)>>40&1)
		}
		zeros, ones := strings.Repeat("0", n-1), strings.Repeat("1", n-1)
		l = append(l, zeros+"0", zeros+"1", "1"+zeros, "0"+ones, ones+"0", ones+"1", string(mixed))
	}
	return l
}

// others are texts that are no bit strings.
func others() []string {
	l := []string{
		"012", "2", "/", " ", "0 1", " 01", "01 ", "01\n", "0b1", "-1", "+1", "x", "\x00", "\x01", "1\x00", "0\xb0", "\xff",
		"\u0661", "\uff11", "0\u0660", strings.Repeat("2", api.MaxBits), strings.Repeat("0", 64) + "a",
		strings.Repeat("0", api.MaxBits+1), strings.Repeat("1", api.MaxBits+1), strings.Repeat("01", api.MaxSource),
	}
	zeros := strings.Repeat("0", api.MaxBits)
	for _, at := range []int{0, 1, 63, 64, 512, api.MaxBits - 1} {
		l = append(l, zeros[:at]+"2"+zeros[at+1:])
	}
	for c := range 256 {
		if c != '0' && c != '1' {
			l = append(l, string([]byte{byte(c)}), string([]byte{'1', byte(c), '0'}))
		}
	}
	return l
}

// wrong are numbers of bits that can't be taken.
func wrong() []int {
	return []int{math.MinInt, math.MinInt + 1, -1 << 32, -65, -64, -2, -1, 65, 66, 128, api.MaxBits, api.MaxBits + 1, 1 << 32, math.MaxInt - 1, math.MaxInt}
}

// made is a cursor of a bit string.
func made(t *testing.T, s string) *Cursor {
	t.Helper()
	c, e := New(s)
	if c == nil || e != api.OK {
		t.Fatalf("New(%q) = %v, error %d", s, c, e)
	}
	return c
}

// model is what a cursor should be: the bits that have been read, those that have not, and whether it is over.
type model struct {
	read, rest string
	over       bool
}

// take goes by texts.
func (m *model) take(n int) (uint64, bool) {
	if n < 0 || n > 64 || m.over {
		return 0, false
	}
	if n > len(m.rest) {
		m.over = true
		return 0, false
	}
	number, _ := strconv.ParseUint("0"+m.rest[:n], 2, 64)
	m.read, m.rest = m.read+m.rest[:n], m.rest[n:]
	return number, true
}

// stands holds all that a cursor tells of itself against what it should.
func stands(t *testing.T, c *Cursor, m model) {
	t.Helper()
	if c.At() != len(m.read) || c.Left() != len(m.rest) || c.Rest() != m.rest || c.Over() != m.over {
		t.Fatalf("at %d, left %d, rest %q, over %t; want %+v", c.At(), c.Left(), c.Rest(), c.Over(), m)
	}
}

// takes takes n bits, and holds the answer and the cursor against what they should be.
func takes(t *testing.T, c *Cursor, m *model, n int) {
	t.Helper()
	was := *m
	want, wantIs := m.take(n)
	if got, is := c.Take(n); got != want || is != wantIs {
		t.Fatalf("Take(%d) at %+v = %d, %t; want %d, %t", n, was, got, is, want, wantIs)
	}
	stands(t, c, *m)
}

// bringTo reads so many bits, at most 64 at once.
func bringTo(t *testing.T, c *Cursor, at int) {
	t.Helper()
	for left := at; left > 0; left -= 64 {
		c.Take(min(left, 64))
	}
	if c.At() != at {
		t.Fatalf("at %d, not %d", c.At(), at)
	}
}

// The chapter's examples.
func TestExamples(t *testing.T) {
	c := made(t, "10110")
	if n, is := c.Take(3); n != 5 || !is {
		t.Errorf("Take(3) = %d, %t", n, is)
	}
	if c.At() != 3 || c.Left() != 2 || c.Rest() != "10" {
		t.Errorf("at %d, left %d, rest %q", c.At(), c.Left(), c.Rest())
	}
	if n, is := c.Take(0); n != 0 || !is {
		t.Errorf("Take(0) = %d, %t", n, is)
	}
	if n, is := c.Take(3); n != 0 || is || !c.Over() {
		t.Errorf("Take(3) = %d, %t, over %t", n, is, c.Over())
	}
	if n, is := c.Take(1); n != 0 || is || c.At() != 3 {
		t.Errorf("Take(1) = %d, %t, at %d", n, is, c.At())
	}
	if c, e := New("012"); c != nil || e != api.ErrForm {
		t.Errorf("New = %v, error %d", c, e)
	}
}

// P8.1: a new cursor stands before the bits of its string.
func TestP8_1_New(t *testing.T) {
	for _, s := range append(upTo(8), long()...) {
		stands(t, made(t, s), model{rest: s})
	}
}

// P8.1 and the error: of what is no bit string there is no cursor.
func TestP8_1_Refused(t *testing.T) {
	for _, s := range others() {
		if c, e := New(s); c != nil || e != api.ErrForm {
			t.Errorf("New(%q) = %v, error %d", s, c, e)
		}
	}
}

// P8.1: all ways to take up to four times from short strings, over or not, with numbers of bits that can't be taken.
func TestP8_1_Take(t *testing.T) {
	sizes := []int{-1, 0, 1, 2, 3, 6, 64, 65}
	for _, s := range upTo(6) {
		for way := range len(sizes) * len(sizes) * len(sizes) * len(sizes) {
			c, m := made(t, s), model{rest: s}
			for range 4 {
				takes(t, c, &m, sizes[way%len(sizes)])
				way /= len(sizes)
			}
		}
	}
}

// P8.1: every number of bits up to a word, at every place of long strings.
func TestP8_1_TakeLong(t *testing.T) {
	for _, s := range long() {
		for n := range 65 {
			for at := 0; at <= len(s); at += 1 + at/3 {
				c := made(t, s)
				bringTo(t, c, at)
				m := model{read: s[:at], rest: s[at:]}
				takes(t, c, &m, n)
				takes(t, c, &m, 1)
			}
		}
	}
}

// P8.1: a word is read whole, its highest bit first.
func TestP8_1_Word(t *testing.T) {
	x := uint64(88172645463325252)
	for _, want := range []uint64{0, 1, 1 << 63, 1<<63 + 1, 1<<63 - 1, math.MaxUint64, math.MaxUint64 - 1, scramble(&x), scramble(&x)} {
		s := strconv.FormatUint(want, 2)
		c := made(t, strings.Repeat("0", 64-len(s))+s)
		if n, is := c.Take(64); n != want || !is || c.At() != 64 || c.Left() != 0 || c.Over() {
			t.Errorf("Take(64) = %d, %t, at %d, left %d, over %t; want %d", n, is, c.At(), c.Left(), c.Over(), want)
		}
	}
}

// P8.1: a number of bits that can't be taken leaves the cursor as it is: new, in the middle, at the end, over.
func TestP8_1_Wrong(t *testing.T) {
	for _, s := range append(upTo(4), long()...) {
		for _, at := range []int{0, len(s) / 2, len(s)} {
			c := made(t, s)
			bringTo(t, c, at)
			m := model{read: s[:at], rest: s[at:]}
			for _, n := range wrong() {
				takes(t, c, &m, n)
			}
			if m.over {
				t.Fatal("over")
			}
			if len(m.rest) >= 64 {
				continue
			}
			takes(t, c, &m, 64)
			for _, n := range wrong() {
				takes(t, c, &m, n)
			}
			if !m.over {
				t.Fatal("not over")
			}
		}
	}
}

// P8.2 and R1: of nil everything is 0, empty or false, whatever was asked of it before.
func TestP8_2_Nil(t *testing.T) {
	var c *Cursor
	for _, n := range append(wrong(), 0, 1, 2, 63, 64) {
		if got, is := c.Take(n); got != 0 || is {
			t.Errorf("Take(%d) of nil = %d, %t", n, got, is)
		}
		if c.At() != 0 || c.Left() != 0 || c.Rest() != "" || c.Over() {
			t.Errorf("nil: at %d, left %d, rest %q, over %t", c.At(), c.Left(), c.Rest(), c.Over())
		}
		if d := c.Copy(); d != nil {
			t.Errorf("Copy of nil = %v", d)
		}
	}
}

// P8.2: a cursor that New did not make has the empty string.
func TestP8_2_NotMade(t *testing.T) {
	for _, n := range append(wrong(), 0, 1, 2, 63, 64) {
		var c Cursor
		for _, d := range []*Cursor{&c, new(Cursor), new(Cursor).Copy()} {
			m := model{}
			stands(t, d, m)
			takes(t, d, &m, n)
			takes(t, d, &m, 0)
			takes(t, d, &m, 1)
			takes(t, d, &m, 0)
			stands(t, d.Copy(), m)
		}
	}
}

// P8.2: what the cursor tells can be asked again, and does not change it.
func TestP8_2_Again(t *testing.T) {
	for _, s := range append(upTo(4), long()...) {
		c, m := made(t, s), model{rest: s}
		for !m.over {
			for range 3 {
				stands(t, c, m)
			}
			takes(t, c, &m, 1+len(s)/5%60)
		}
		for range 3 {
			stands(t, c, m)
		}
	}
}

// P8.2: a copy stands where the cursor does, over or not, and reads on in the same way.
func TestP8_2_Copy(t *testing.T) {
	for _, s := range append(upTo(5), long()...) {
		for at := 0; at <= len(s); at += 1 + len(s)/30 {
			for _, end := range []bool{false, true} {
				c, m := made(t, s), model{read: s[:at], rest: s[at:]}
				bringTo(t, c, at)
				if end && len(m.rest) < 64 {
					takes(t, c, &m, 64)
				}
				d := c.Copy()
				if d == nil || d == c {
					t.Fatalf("Copy of %p = %p", c, d)
				}
				stands(t, d, m)
				for _, n := range []int{0, 1, 2, 64, 0} {
					takes(t, d, &m, n)
				}
			}
		}
	}
}

// P8.3: n bits and then m yield the number of n + m bits, and a number of n bits is below 2^n.
func TestP8_3(t *testing.T) {
	for _, s := range append(upTo(7), long()...) {
		most := min(len(s), 64)
		for all := range most + 1 {
			whole := made(t, s)
			want, is := whole.Take(all)
			if !is || all < 64 && want>>all != 0 {
				t.Fatalf("%q: Take(%d) = %d, %t", s, all, want, is)
			}
			for n := range all + 1 {
				c := made(t, s)
				first, is := c.Take(n)
				second, also := c.Take(all - n)
				if !is || !also || first<<(all-n)+second != want || c.At() != whole.At() || c.Rest() != whole.Rest() {
					t.Fatalf("%q: %d and %d bits: %d and %d; want %d", s, n, all-n, first, second, want)
				}
			}
		}
	}
}

// P8.3: a number of bits is that of the bits one by one.
func TestP8_3_OneByOne(t *testing.T) {
	for _, s := range append(upTo(7), long()...) {
		most := min(len(s), 64)
		c, d := made(t, s), made(t, s)
		want := uint64(0)
		for range most {
			bit, is := c.Take(1)
			if !is || bit > 1 {
				t.Fatalf("%q: Take(1) = %d, %t", s, bit, is)
			}
			want = 2*want + bit
		}
		if n, is := d.Take(most); n != want || !is {
			t.Fatalf("%q: Take(%d) = %d, %t; want %d", s, most, n, is, want)
		}
	}
}

// P8.4: bits behind those that are read change nothing but the Rest.
func TestP8_4(t *testing.T) {
	more := append(upTo(3), strings.Repeat("1", 64), strings.Repeat("0", 100)+"1")
	for _, s := range append(upTo(6), long()...) {
		if len(s)+101 > api.MaxBits { // more would be no bit string
			continue
		}
		for n := range min(len(s), 64) + 1 {
			c := made(t, s)
			first, is := c.Take(n)
			second, also := c.Take(min(c.Left(), 64))
			at := c.At()
			if !is || !also {
				t.Fatalf("%q: Take(%d) = %d, %t, and then %d, %t", s, n, first, is, second, also)
			}
			for _, tail := range more {
				d := made(t, s+tail)
				k, is := d.Take(n)
				l, also := d.Take(at - n)
				if k != first || l != second || !is || !also || d.At() != at || d.Over() || d.Rest() != (s + tail)[at:] {
					t.Fatalf("%q and %q: %d, %t, and then %d, %t; want %d and %d", s, tail, k, is, l, also, first, second)
				}
			}
		}
	}
}

// P8.5: a cursor is over if and only if more bits were requested than were left; it may be read to its end.
func TestP8_5_Over(t *testing.T) {
	for _, s := range append(upTo(6), long()...) {
		for at := 0; at <= len(s); at += 1 + len(s)/30 {
			for n := range 65 {
				c := made(t, s)
				bringTo(t, c, at)
				_, is := c.Take(n)
				if over := n > len(s)-at; c.Over() != over || is == over {
					t.Fatalf("%q at %d: Take(%d) is %t, over %t", s, at, n, is, c.Over())
				}
			}
		}
	}
}

// P8.5: a cursor that is over returns false for each Take, for no bits too, and stays where it was.
func TestP8_5_Stays(t *testing.T) {
	for _, s := range append(upTo(6), long()...) {
		for at := max(0, len(s)-63); at <= len(s); at++ {
			c := made(t, s)
			bringTo(t, c, at)
			c.Take(len(s) - at + 1)
			for n := -2; n < 67; n++ {
				if got, is := c.Take(n); got != 0 || is {
					t.Fatalf("%q at %d: Take(%d) = %d, %t", s, at, n, got, is)
				}
				stands(t, c, model{s[:at], s[at:], true})
			}
		}
	}
}

// P8.6: the bits that were read, followed by the Rest, are the string.
func TestP8_6(t *testing.T) {
	x := uint64(88172645463325252)
	for _, s := range append(upTo(8), long()...) {
		for range 4 {
			c, read := made(t, s), ""
			for range 60 { // most of them are over by then
				n := int(scramble(&x) >> 32 % uint64(min(len(s)+2, 65)))
				if number, is := c.Take(n); is {
					taken, e := bits.Of(number, n)
					if e != api.OK {
						t.Fatalf("%d is no number of %d bits", number, n)
					}
					read += taken
				}
				if read+c.Rest() != s || len(read) != c.At() || c.At()+c.Left() != len(s) {
					t.Fatalf("%q: read %q, rest %q, at %d, left %d", s, read, c.Rest(), c.At(), c.Left())
				}
			}
		}
	}
}

// P8.7: whatever is done to a copy does not change the cursor, and vice versa.
func TestP8_7(t *testing.T) {
	for _, s := range append(upTo(5), long()...) {
		for at := 0; at <= len(s); at += 1 + len(s)/30 {
			for _, n := range []int{-1, 0, 1, 3, 64, 65} {
				c := made(t, s)
				bringTo(t, c, at)
				still := model{read: s[:at], rest: s[at:]}
				moved := still
				d := c.Copy()
				takes(t, d, &moved, n)
				stands(t, c, still)
				moved = still
				d = c.Copy()
				takes(t, c, &moved, n)
				stands(t, d, still)
				takes(t, d, &still, 1)
				stands(t, c, moved)
			}
		}
	}
}

// P8.7: a copy of a cursor that is over is over; a copy made before is not, nor are other cursors of the same string.
func TestP8_7_Over(t *testing.T) {
	c, other := made(t, "101"), made(t, "101")
	before := c.Copy()
	if _, is := c.Take(4); is {
		t.Fatal("Take(4) of three bits")
	}
	after := c.Copy()
	stands(t, before, model{rest: "101"})
	stands(t, other, model{rest: "101"})
	stands(t, after, model{rest: "101", over: true})
	if n, is := before.Take(3); n != 5 || !is {
		t.Errorf("Take(3) = %d, %t", n, is)
	}
	stands(t, c, model{rest: "101", over: true})
}

// R3: the argument is not kept: what becomes of its memory does not matter to the cursor.
func TestR3_NotKept(t *testing.T) {
	memory := []byte("10110")
	c := made(t, unsafe.String(&memory[0], len(memory)))
	copy(memory, "01001")
	m := model{rest: "10110"}
	stands(t, c, m)
	takes(t, c, &m, 5)
}

// R3: no Rest, and no copy, shares memory with the cursor.
func TestR3_NewMemory(t *testing.T) {
	apart := func(a, b string) {
		t.Helper()
		first, second := uintptr(unsafe.Pointer(unsafe.StringData(a))), uintptr(unsafe.Pointer(unsafe.StringData(b)))
		if a != "" && b != "" && second < first+uintptr(len(a)) && first < second+uintptr(len(b)) {
			t.Errorf("%q shares memory with %q", a, b)
		}
	}
	c := made(t, strings.Repeat("10110", 100))
	for range 5 {
		apart(c.s, c.Rest())
		apart(c.Rest(), c.Rest())
		apart(c.s, c.Copy().s)
		c.Take(64)
	}
}
