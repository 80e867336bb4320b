package bucket_test

import (
	"math"
	"math/rand"
	"testing"

	"headrace/api"
	"headrace/bucket"
)

func newGate(t *testing.T, most int) *bucket.Gate {
	t.Helper()
	g, e := bucket.Gated(most)
	if g == nil || e != api.OK {
		t.Fatalf("Gated(%d): %v, %v", most, g, e)
	}
	return g
}

// enter looks at whether one is let in, and how many are within then.
func enter(t *testing.T, g *bucket.Gate, want bool, within int) {
	t.Helper()
	if ok := g.Enter(); ok != want || g.Within() != within {
		t.Errorf("Enter: %v, %d within; want %v, %d", ok, g.Within(), want, within)
	}
}

// leave looks at whether one is let out, and how many are within then.
func leave(t *testing.T, g *bucket.Gate, want bool, within int) {
	t.Helper()
	if ok := g.Leave(); ok != want || g.Within() != within {
		t.Errorf("Leave: %v, %d within; want %v, %d", ok, g.Within(), want, within)
	}
}

// 15.2: the bound's range.
func TestGated(t *testing.T) {
	for _, most := range []int{1, 2, 999, 1000} {
		if n := newGate(t, most).Within(); n != 0 {
			t.Errorf("Gated(%d): %d within", most, n)
		}
	}
	for _, most := range []int{0, -1, math.MinInt, 1001, math.MaxInt} {
		if g, e := bucket.Gated(most); g != nil || e != api.ErrArg {
			t.Errorf("Gated(%d): %v, %v", most, g, e)
		}
	}
}

// 15.2, 15.4: as many as the bound are let in, and no more; as many out.
func TestFullAndEmpty(t *testing.T) {
	for _, most := range []int{1, 2, 3, 999, 1000} {
		g := newGate(t, most)
		for range 2 {
			leave(t, g, false, 0)
			leave(t, g, false, 0)
			for i := range most {
				enter(t, g, true, i+1)
			}
			enter(t, g, false, most)
			enter(t, g, false, most)
			leave(t, g, true, most-1)
			enter(t, g, true, most)
			enter(t, g, false, most)
			for i := range most {
				leave(t, g, true, most-i-1)
			}
		}
	}
}

// 15.4: over many drawn sequences never more are within than the bound.
func TestNeverMore(t *testing.T) {
	r := rand.New(rand.NewSource(154))
	for _, most := range []int{1, 2, 3, 10, 1000} {
		for range 200 {
			g := newGate(t, most)
			// Now more come than go, now more go than come.
			within, tide := 0, r.Intn(4)
			for range 3 * most {
				if r.Intn(4) <= tide {
					ok := within < most
					if ok {
						within++
					}
					enter(t, g, ok, within)
				} else {
					ok := within > 0
					if ok {
						within--
					}
					leave(t, g, ok, within)
				}
			}
		}
	}
}

// Gates do not hang together.
func TestGatesApart(t *testing.T) {
	a, b := newGate(t, 1), newGate(t, 1)
	enter(t, a, true, 1)
	enter(t, b, true, 1)
	leave(t, a, true, 0)
	enter(t, b, false, 1)
}

// P1, R6: a nil gate, and one that Gated did not make, let nobody in.
func TestNoGate(t *testing.T) {
	for _, g := range []*bucket.Gate{nil, {}} {
		for range 3 {
			enter(t, g, false, 0)
			leave(t, g, false, 0)
		}
	}
}
