package chain_test

import (
	"bytes"
	"math"
	"math/rand"
	"slices"
	"testing"

	"headrace/api"
	"headrace/chain"
)

func newChain(t *testing.T, bound, high, low int) *chain.Chain {
	t.Helper()
	c, e := chain.New(bound, high, low)
	if c == nil || e != api.OK {
		t.Fatalf("New(%d, %d, %d): %v, %v", bound, high, low, c, e)
	}
	return c
}

func put(t *testing.T, c *chain.Chain, b string, want int) {
	t.Helper()
	if n := c.Put([]byte(b)); n != want {
		t.Errorf("Put(%q): %d; want %d", b, n, want)
	}
}

func take(t *testing.T, c *chain.Chain, n int, want string) {
	t.Helper()
	if b := c.Take(n); string(b) != want {
		t.Errorf("Take(%d): %q; want %q", n, b, want)
	}
}

func peek(t *testing.T, c *chain.Chain, n int, want string) {
	t.Helper()
	if b := c.Peek(n); string(b) != want {
		t.Errorf("Peek(%d): %q; want %q", n, b, want)
	}
}

func drop(t *testing.T, c *chain.Chain, n, want int) {
	t.Helper()
	if x := c.Drop(n); x != want {
		t.Errorf("Drop(%d): %d; want %d", n, x, want)
	}
}

// holds looks at all that can be told of a chain without a change.
func holds(t *testing.T, c *chain.Chain, all string, room int, stopped bool) {
	t.Helper()
	peek(t, c, math.MaxInt, all)
	if c.Len() != len(all) || c.Room() != room || c.Stopped() != stopped {
		t.Errorf("Len %d, Room %d, Stopped %v; want %d, %d, %v", c.Len(), c.Room(), c.Stopped(), len(all), room, stopped)
	}
}

// 2.1: the edges of right bounds and marks.
func TestNew(t *testing.T) {
	for _, m := range [][3]int{
		{1, 1, 0},
		{4, 3, 1},
		{4, 4, 3},
		{4, 4, 0},
		{4, 1, 0},
		{api.MaxBytes, api.MaxBytes, api.MaxBytes - 1},
		{api.MaxBytes, 1, 0},
	} {
		holds(t, newChain(t, m[0], m[1], m[2]), "", m[0], false)
	}
}

// 2.1, R4: each argument wrong on either side, as little and as much as may be.
func TestNewWrong(t *testing.T) {
	for _, m := range [][3]int{
		{0, 1, 0}, {-1, 1, 0}, {math.MinInt, 1, 0}, {0, 0, 0}, {0, 0, -1},
		{api.MaxBytes + 1, 1, 0}, {math.MaxInt, 1, 0},
		{4, 0, 0}, {4, 0, -1}, {4, -1, -2}, {4, math.MinInt, 0},
		{4, 5, 0}, {4, 5, 4}, {4, math.MaxInt, 0}, {api.MaxBytes, api.MaxBytes + 1, 0},
		{4, 3, -1}, {4, 3, math.MinInt},
		{4, 3, 3}, {4, 3, 4}, {4, 4, 4}, {4, 1, 1}, {4, 3, math.MaxInt},
	} {
		if c, e := chain.New(m[0], m[1], m[2]); c != nil || e != api.ErrArg {
			t.Errorf("New(%v): %v, %v", m, c, e)
		}
	}
}

// 2.2: as many of the first bytes as there is room for.
func TestPut(t *testing.T) {
	c := newChain(t, 5, 5, 0)
	put(t, c, "", 0)
	if n := c.Put(nil); n != 0 {
		t.Errorf("Put(nil): %d", n)
	}
	put(t, c, "ab", 2)
	put(t, c, "c", 1)
	holds(t, c, "abc", 2, false)
	put(t, c, "defg", 2)
	holds(t, c, "abcde", 0, true)
	put(t, c, "h", 0)
	put(t, c, "", 0)
	holds(t, c, "abcde", 0, true)
}

// 2.2: Take takes the first n away; all, if there are fewer; none of n below 1.
func TestTake(t *testing.T) {
	c := newChain(t, 8, 8, 0)
	take(t, c, 1, "")
	put(t, c, "abcdef", 6)
	for _, n := range []int{0, -1, math.MinInt} {
		take(t, c, n, "")
	}
	holds(t, c, "abcdef", 2, false)
	take(t, c, 1, "a")
	take(t, c, 2, "bc")
	holds(t, c, "def", 5, false)
	take(t, c, 4, "def")
	holds(t, c, "", 8, false)
	take(t, c, 1, "")
	put(t, c, "xyz", 3)
	take(t, c, 3, "xyz")
	put(t, c, "uvw", 3)
	take(t, c, math.MaxInt, "uvw")
	holds(t, c, "", 8, false)
}

// 2.2: Peek tells what Take would, and takes nothing.
func TestPeek(t *testing.T) {
	c := newChain(t, 4, 2, 1)
	peek(t, c, 3, "")
	put(t, c, "abcd", 4)
	for _, s := range []struct {
		n    int
		want string
	}{{math.MinInt, ""}, {-1, ""}, {0, ""}, {1, "a"}, {3, "abc"}, {4, "abcd"}, {5, "abcd"}, {math.MaxInt, "abcd"}} {
		peek(t, c, s.n, s.want)
		holds(t, c, "abcd", 0, true)
	}
}

// 2.2: Drop takes away as Take does, and tells how many.
func TestDrop(t *testing.T) {
	c := newChain(t, 4, 4, 0)
	drop(t, c, 1, 0)
	put(t, c, "abcd", 4)
	for _, n := range []int{0, -1, math.MinInt} {
		drop(t, c, n, 0)
	}
	holds(t, c, "abcd", 0, true)
	drop(t, c, 1, 1)
	holds(t, c, "bcd", 1, true)
	drop(t, c, 2, 2)
	holds(t, c, "d", 3, true)
	drop(t, c, math.MaxInt, 1)
	holds(t, c, "", 4, false)
	drop(t, c, 1, 0)
}

// 2.3: the place of the first one, counted from the chain's front, before and behind the ring's end.
func TestFind(t *testing.T) {
	c := newChain(t, 6, 6, 0)
	find := func(x byte, want int) {
		t.Helper()
		if i := c.Find(x); i != want {
			t.Errorf("Find(%q): %d; want %d", x, i, want)
		}
	}
	find('a', -1)
	find(0, -1)
	put(t, c, "abcbaz", 6)
	find('a', 0)
	find('b', 1)
	find('z', 5)
	find('x', -1)
	find(0, -1)
	drop(t, c, 4, 4)
	find('c', -1)
	find('a', 0)
	put(t, c, "a\x00\xffq", 4)
	find('a', 0)
	find('z', 1)
	find(0, 3)
	find(0xff, 4)
	find('q', 5)
	drop(t, c, 1, 1)
	find('a', 1)
	drop(t, c, 5, 5)
	find('q', -1)
	holds(t, c, "", 6, false)
}

// 2.3: stopped from a Put that reaches the high mark until a Take or a Drop that reaches the low one.
func TestStopped(t *testing.T) {
	for _, less := range []func(c *chain.Chain, n int){
		func(c *chain.Chain, n int) { c.Take(n) },
		func(c *chain.Chain, n int) { c.Drop(n) },
	} {
		c := newChain(t, 8, 5, 2)
		put(t, c, "abcd", 4)
		holds(t, c, "abcd", 4, false)
		put(t, c, "e", 1)
		holds(t, c, "abcde", 3, true)
		less(c, 2)
		holds(t, c, "cde", 5, true)
		less(c, 0)
		put(t, c, "f", 1)
		holds(t, c, "cdef", 4, true)
		less(c, 2)
		holds(t, c, "ef", 6, false)
		put(t, c, "gh", 2)
		holds(t, c, "efgh", 4, false)
		put(t, c, "ijklm", 4)
		holds(t, c, "efghijkl", 0, true)
		less(c, 8)
		holds(t, c, "", 8, false)
	}
}

// 2.3: a low mark of 0 is reached by the last byte alone; a chain of one byte goes to and fro.
func TestStoppedAtEdges(t *testing.T) {
	c := newChain(t, 3, 1, 0)
	put(t, c, "ab", 2)
	holds(t, c, "ab", 1, true)
	take(t, c, 1, "a")
	holds(t, c, "b", 2, true)
	take(t, c, 1, "b")
	holds(t, c, "", 3, false)
	one := newChain(t, 1, 1, 0)
	for _, b := range []string{"x", "y", "z"} {
		put(t, one, b+"!", 1)
		holds(t, one, b, 0, true)
		take(t, one, 1, b)
		holds(t, one, "", 1, false)
	}
}

// 2.2, 2.4: a ring that goes round, in each place where its end may fall.
func TestGoesRound(t *testing.T) {
	for shift := range 7 {
		c := newChain(t, 6, 6, 0)
		put(t, c, "......"[:min(shift, 6)], min(shift, 6))
		drop(t, c, shift, min(shift, 6))
		put(t, c, "abcdefg", 6)
		peek(t, c, 4, "abcd")
		take(t, c, 2, "ab")
		put(t, c, "ghi", 2)
		holds(t, c, "cdefgh", 0, true)
		take(t, c, 5, "cdefg")
		take(t, c, 5, "h")
	}
}

// 2.2, 2.4: bytes that lie round the end when more room is needed than was used till then keep their order.
func TestMoreWhileRound(t *testing.T) {
	c := newChain(t, 64, 64, 0)
	put(t, c, "abcd", 4)
	take(t, c, 3, "abc")
	put(t, c, "efg", 3)
	holds(t, c, "defg", 60, false)
	put(t, c, "hijklmnop", 9)
	holds(t, c, "defghijklmnop", 51, false)
	take(t, c, 13, "defghijklmnop")
}

// 2.1, 2.4: the greatest bound, filled and gone round.
func TestGreatestBound(t *testing.T) {
	c := newChain(t, api.MaxBytes, api.MaxBytes, api.MaxBytes-1)
	b := make([]byte, api.MaxBytes+1)
	for i := range b {
		b[i] = byte(i * i >> 3)
	}
	if n := c.Put(b); n != api.MaxBytes || !c.Stopped() || c.Room() != 0 {
		t.Fatalf("Put: %d, Stopped %v, Room %d", n, c.Stopped(), c.Room())
	}
	if x := c.Take(1000); !bytes.Equal(x, b[:1000]) || c.Stopped() {
		t.Error("the first bytes are others, or it is still stopped")
	}
	if n := c.Put(b); n != 1000 {
		t.Errorf("Put: %d", n)
	}
	if x := c.Take(math.MaxInt); !bytes.Equal(x, slices.Concat(b[1000:api.MaxBytes], b[:1000])) {
		t.Error("the bytes are others")
	}
}

// 2.3: a nil chain has no room and no bytes, and is not stopped.
func TestNilChain(t *testing.T) {
	var c *chain.Chain
	put(t, c, "abc", 0)
	put(t, c, "", 0)
	for _, n := range []int{math.MinInt, -1, 0, 1, math.MaxInt} {
		take(t, c, n, "")
		peek(t, c, n, "")
		drop(t, c, n, 0)
	}
	if i := c.Find('a'); i != -1 {
		t.Errorf("Find: %d", i)
	}
	if i := c.Find(0); i != -1 {
		t.Errorf("Find: %d", i)
	}
	holds(t, c, "", 0, false)
}

// P1: a chain that New did not make ends its calls too.
func TestZeroChain(t *testing.T) {
	var c chain.Chain
	put(t, &c, "abc", 0)
	put(t, &c, "", 0)
	take(t, &c, 3, "")
	drop(t, &c, 3, 0)
	if i := c.Find(0); i != -1 {
		t.Errorf("Find: %d", i)
	}
	holds(t, &c, "", 0, false)
}

// R3: what is put is neither changed nor kept, spare room too.
func TestPutKeepsNothing(t *testing.T) {
	c := newChain(t, 6, 6, 0)
	b := []byte("abcdWXYZ")
	c.Put(b[:4:6])
	if string(b) != "abcdWXYZ" {
		t.Errorf("Put changed what was handed in: %q", b)
	}
	for i := range b {
		b[i] = '#'
	}
	holds(t, c, "abcd", 2, false)
	put(t, c, "efgh", 2)
	take(t, c, 3, "abc")
	put(t, c, "ijk", 3)
	c.Take(9)
	if string(b) != "########" {
		t.Errorf("a later call changed what was handed in: %q", b)
	}
}

// scribble writes over an answer, spare room too.
func scribble(b []byte) {
	b = b[:cap(b)]
	for i := range b {
		b[i] = '#'
	}
}

// R3: what is told shares no memory with the chain or with another answer, straight or round.
func TestAnswersApart(t *testing.T) {
	for shift := range 6 {
		c := newChain(t, 5, 5, 0)
		put(t, c, "....."[:min(shift, 5)], min(shift, 5))
		drop(t, c, 5, min(shift, 5))
		put(t, c, "abcde", 5)
		one, two := c.Peek(3), c.Peek(3)
		scribble(one)
		if string(two) != "abc" {
			t.Errorf("two answers share memory: %q", two)
		}
		holds(t, c, "abcde", 0, true)
		taken := c.Take(2)
		scribble(two)
		if string(taken) != "ab" {
			t.Errorf("two answers share memory: %q", taken)
		}
		put(t, c, "fgh", 2)
		if string(taken) != "ab" {
			t.Errorf("a Put reached what was taken: %q", taken)
		}
		scribble(taken)
		holds(t, c, "cdefg", 0, true)
		all := c.Take(5)
		scribble(c.Take(1))
		put(t, c, "vwxyz", 5)
		if string(all) != "cdefg" {
			t.Errorf("a Put reached what was taken: %q", all)
		}
		scribble(all)
		holds(t, c, "vwxyz", 0, true)
	}
}

// R6: chains do not hang together.
func TestChainsApart(t *testing.T) {
	a, b := newChain(t, 4, 2, 0), newChain(t, 4, 2, 0)
	put(t, a, "abc", 3)
	holds(t, b, "", 4, false)
	put(t, b, "z", 1)
	holds(t, a, "abc", 1, true)
	holds(t, b, "z", 3, false)
}

// model is a chain in the plainest way, to hold the ring against.
type model struct {
	bound, high, low int
	all              []byte
	stopped          bool
}

func (m *model) put(b []byte) int {
	n := min(len(b), m.bound-len(m.all))
	m.all = append(m.all, b[:n]...)
	m.stopped = m.stopped || len(m.all) >= m.high
	return n
}

func (m *model) take(n int) []byte {
	n = max(0, min(n, len(m.all)))
	b := m.all[:n]
	m.all = m.all[n:]
	m.stopped = m.stopped && len(m.all) > m.low
	return b
}

// 2.2, 2.3, 2.4: long rows of calls tell the same as the model, and what is taken is what was put.
func TestAgainstModel(t *testing.T) {
	r := rand.New(rand.NewSource(2))
	for range 300 {
		bound := 1 + r.Intn(40)
		high := 1 + r.Intn(bound)
		low := r.Intn(high)
		c, m := newChain(t, bound, high, low), &model{bound: bound, high: high, low: low}
		var in, out []byte
		for range 300 {
			n := r.Intn(bound+5) - 2
			switch r.Intn(4) {
			case 0, 1:
				b := make([]byte, max(n, 0))
				r.Read(b)
				x := c.Put(b)
				if y := m.put(b); x != y {
					t.Fatalf("Put of %d: %d; want %d", len(b), x, y)
				}
				in = append(in, b[:x]...)
			case 2:
				x, y := c.Take(n), m.take(n)
				if !bytes.Equal(x, y) {
					t.Fatalf("Take(%d): %v; want %v", n, x, y)
				}
				out = append(out, x...)
			case 3:
				out = append(out, c.Peek(n)...)
				if x, y := c.Drop(n), len(m.take(n)); x != y {
					t.Fatalf("Drop(%d): %d; want %d", n, x, y)
				}
			}
			sameAsModel(t, c, m, byte(r.Intn(256)))
		}
		if out = append(out, c.Take(bound)...); !bytes.Equal(in, out) {
			t.Fatalf("put %v; taken %v", in, out)
		}
	}
}

func sameAsModel(t *testing.T, c *chain.Chain, m *model, x byte) {
	t.Helper()
	if c.Len() > m.bound {
		t.Fatalf("Len %d over the bound %d", c.Len(), m.bound)
	}
	if !bytes.Equal(c.Peek(m.bound), m.all) || c.Len() != len(m.all) || c.Room() != m.bound-len(m.all) || c.Stopped() != m.stopped {
		t.Fatalf("%v, Len %d, Room %d, Stopped %v; want %+v", c.Peek(m.bound), c.Len(), c.Room(), c.Stopped(), *m)
	}
	if len(m.all) > 0 {
		x = m.all[int(x)%len(m.all)]
	}
	if c.Find(x) != bytes.IndexByte(m.all, x) {
		t.Fatalf("Find(%d): %d; want %d", x, c.Find(x), bytes.IndexByte(m.all, x))
	}
}
