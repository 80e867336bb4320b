package tick_test

import (
	"math"
	"slices"
	"testing"

	"headrace/api"
	"headrace/tick"
)

// moments are the edges of what a moment may be, and some between.
var moments = []int{0, 1, 2, 7, 1 << 31, 1 << 61, api.MaxTick - 1, api.MaxTick}

// noMoments lie outside on both sides, as near and as far as they may.
var noMoments = []int{-1, math.MinInt, api.MaxTick + 1, math.MaxInt}

// spans have those whose sum with a moment wraps round.
var spans = []int{0, 1, 5, 1 << 61, api.MaxTick - 1, api.MaxTick, api.MaxTick + 1, math.MaxInt}

func want(t *testing.T, call string, got int, e api.Errno, x int, f api.Errno) {
	t.Helper()
	if got != x || e != f {
		t.Errorf("%s: %d, %v; want %d, %v", call, got, e, x, f)
	}
}

func newClock(t *testing.T, at int) *tick.Clock {
	t.Helper()
	c, e := tick.New(at)
	if c == nil || e != api.OK {
		t.Fatalf("New(%d): %v, %v", at, c, e)
	}
	return c
}

// 1.1: the sum, or the greatest moment.
func TestAdd(t *testing.T) {
	for _, c := range []struct{ t, d, want int }{
		{0, 0, 0},
		{5, 3, 8},
		{0, 1, 1},
		{7, 0, 7},
		{0, api.MaxTick, api.MaxTick},
		{0, api.MaxTick - 1, api.MaxTick - 1},
		{0, api.MaxTick + 1, api.MaxTick},
		{0, math.MaxInt, api.MaxTick},
		{1, api.MaxTick - 1, api.MaxTick},
		{1, api.MaxTick, api.MaxTick},
		{api.MaxTick - 1, 0, api.MaxTick - 1},
		{api.MaxTick - 1, 1, api.MaxTick},
		{api.MaxTick - 1, 5, api.MaxTick},
		{api.MaxTick, 0, api.MaxTick},
		{api.MaxTick, api.MaxTick, api.MaxTick},
		{api.MaxTick, math.MaxInt, api.MaxTick},
	} {
		x, e := tick.Add(c.t, c.d)
		want(t, "Add", x, e, c.want, api.OK)
	}
}

// 1.1, R4: what is wrong in each argument, alone and in both.
func TestAddWrong(t *testing.T) {
	for _, m := range noMoments {
		for _, d := range []int{0, 3, math.MaxInt, -1} {
			x, e := tick.Add(m, d)
			want(t, "Add of no moment", x, e, 0, api.ErrArg)
		}
	}
	for _, m := range moments {
		for _, d := range []int{-1, -api.MaxTick, math.MinInt} {
			x, e := tick.Add(m, d)
			want(t, "Add of no span", x, e, 0, api.ErrArg)
		}
	}
}

// 1.1: how far b is behind a; 0, if it is not.
func TestUntil(t *testing.T) {
	for _, c := range []struct{ a, b, want int }{
		{3, 8, 5},
		{8, 3, 0},
		{4, 4, 0},
		{0, 0, 0},
		{0, 1, 1},
		{1, 0, 0},
		{0, api.MaxTick, api.MaxTick},
		{api.MaxTick, 0, 0},
		{api.MaxTick - 1, api.MaxTick, 1},
		{api.MaxTick, api.MaxTick, 0},
	} {
		x, e := tick.Until(c.a, c.b)
		want(t, "Until", x, e, c.want, api.OK)
	}
}

func TestUntilWrong(t *testing.T) {
	for _, n := range noMoments {
		for _, m := range moments {
			x, e := tick.Until(n, m)
			want(t, "Until from no moment", x, e, 0, api.ErrArg)
			x, e = tick.Until(m, n)
			want(t, "Until no moment", x, e, 0, api.ErrArg)
		}
		x, e := tick.Until(n, n)
		want(t, "Until of no moments", x, e, 0, api.ErrArg)
	}
}

// 1.1: the least moment, wherever it stands; what is no moment is not looked at.
func TestFirst(t *testing.T) {
	for _, c := range []struct {
		l    []int
		want int
		ok   bool
	}{
		{nil, 0, false},
		{[]int{}, 0, false},
		{noMoments, 0, false},
		{[]int{-1}, 0, false},
		{[]int{api.MaxTick + 1}, 0, false},
		{[]int{0}, 0, true},
		{[]int{api.MaxTick}, api.MaxTick, true},
		{[]int{math.MaxInt, api.MaxTick, math.MinInt}, api.MaxTick, true},
		{[]int{-1, 7, 5}, 5, true},
		{[]int{5, 7, -1}, 5, true},
		{[]int{9, 5, 7}, 5, true},
		{[]int{7, 0, 7}, 0, true},
		{[]int{4, 4}, 4, true},
	} {
		if x, ok := tick.First(c.l); x != c.want || ok != c.ok {
			t.Errorf("First(%v): %d, %v; want %d, %v", c.l, x, ok, c.want, c.ok)
		}
	}
}

// R3: the list stays as it was, spare room too.
func TestFirstChangesNothing(t *testing.T) {
	l := []int{9, -3, 5, math.MaxInt, 7, 42, 43}
	was := slices.Clone(l)
	tick.First(l[:5:6])
	if !slices.Equal(l, was) {
		t.Errorf("First changed its list: %v", l)
	}
}

// 1.2: a clock shows what it was made with, up to the greatest moment.
func TestNew(t *testing.T) {
	for _, m := range moments {
		if x := newClock(t, m).Now(); x != m {
			t.Errorf("New(%d): shows %d", m, x)
		}
	}
	for _, m := range noMoments {
		if c, e := tick.New(m); c != nil || e != api.ErrArg {
			t.Errorf("New(%d): %v, %v", m, c, e)
		}
	}
}

// 1.2: Advance tells what the clock shows from then on.
func TestAdvance(t *testing.T) {
	c := newClock(t, 2)
	for _, s := range []struct{ d, want int }{{4, 6}, {0, 6}, {1, 7}, {api.MaxTick - 8, api.MaxTick - 1}, {5, api.MaxTick}, {math.MaxInt, api.MaxTick}, {0, api.MaxTick}} {
		x, e := c.Advance(s.d)
		want(t, "Advance", x, e, s.want, api.OK)
		if c.Now() != s.want {
			t.Errorf("Advance(%d): shows %d", s.d, c.Now())
		}
	}
}

// 1.2, R4: a wrong span changes nothing.
func TestAdvanceWrong(t *testing.T) {
	for _, m := range moments {
		c := newClock(t, m)
		for _, d := range []int{-1, math.MinInt} {
			x, e := c.Advance(d)
			want(t, "Advance", x, e, 0, api.ErrArg)
			if c.Now() != m {
				t.Errorf("Advance(%d): shows %d; want %d", d, c.Now(), m)
			}
		}
	}
}

// 1.2: Since is Until what the clock shows.
func TestSince(t *testing.T) {
	c := newClock(t, 6)
	for _, s := range []struct{ t, want int }{{1, 5}, {0, 6}, {6, 0}, {7, 0}, {api.MaxTick, 0}} {
		x, e := c.Since(s.t)
		want(t, "Since", x, e, s.want, api.OK)
	}
	for _, m := range noMoments {
		x, e := c.Since(m)
		want(t, "Since no moment", x, e, 0, api.ErrArg)
	}
	if c.Now() != 6 {
		t.Errorf("Since moved the clock to %d", c.Now())
	}
	x, e := newClock(t, api.MaxTick).Since(0)
	want(t, "Since 0 at the greatest moment", x, e, api.MaxTick, api.OK)
}

// 1.2: clocks do not hang together.
func TestClocksApart(t *testing.T) {
	a, b := newClock(t, 1), newClock(t, 1)
	a.Advance(5)
	if a.Now() != 6 || b.Now() != 1 {
		t.Errorf("shown: %d, %d", a.Now(), b.Now())
	}
}

// 1.2: a nil clock shows 0, and keeps nothing.
func TestNilClock(t *testing.T) {
	var c *tick.Clock
	for _, d := range spans {
		x, e := c.Advance(d)
		want(t, "Advance of nil", x, e, min(d, api.MaxTick), api.OK)
		if c.Now() != 0 {
			t.Errorf("a nil clock shows %d", c.Now())
		}
	}
	for _, d := range []int{-1, math.MinInt} {
		x, e := c.Advance(d)
		want(t, "Advance of nil", x, e, 0, api.ErrArg)
	}
	for _, m := range moments {
		x, e := c.Since(m)
		want(t, "Since of nil", x, e, 0, api.OK)
	}
	for _, m := range noMoments {
		x, e := c.Since(m)
		want(t, "Since of nil", x, e, 0, api.ErrArg)
	}
}

// 1.3: by a and then by b is by both, where their sum is a number.
func TestAdvanceInParts(t *testing.T) {
	for _, m := range moments {
		for _, a := range spans {
			for _, b := range spans {
				if a > math.MaxInt-b {
					continue
				}
				parts, whole := newClock(t, m), newClock(t, m)
				parts.Advance(a)
				x, e := parts.Advance(b)
				y, f := whole.Advance(a + b)
				want(t, "Advance in parts", x, e, y, f)
				if parts.Now() != whole.Now() {
					t.Errorf("from %d by %d and %d: %d; by both: %d", m, a, b, parts.Now(), whole.Now())
				}
			}
		}
	}
}

// 1.3: whatever a clock is told, it does not go back, and stays at a moment.
func TestNeverBack(t *testing.T) {
	tells := slices.Concat(spans, []int{-1, math.MinInt, 3, -7, math.MaxInt})
	for _, m := range moments {
		c := newClock(t, m)
		for _, d := range tells {
			was := c.Now()
			c.Advance(d)
			if c.Now() < was || c.Now() > api.MaxTick {
				t.Errorf("Advance(%d) at %d: shows %d", d, was, c.Now())
			}
		}
	}
}
