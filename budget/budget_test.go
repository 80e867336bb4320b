package budget_test

import (
	"math"
	"slices"
	"testing"

	"headrace/api"
	"headrace/budget"
)

// noMoments lie outside on both sides, as near and as far as they may.
var noMoments = []int{-1, math.MinInt, api.MaxTick + 1, math.MaxInt}

func newBudget(t *testing.T, percent, min, window int) *budget.Budget {
	t.Helper()
	b, e := budget.New(percent, min, window)
	if b == nil || e != api.OK {
		t.Fatalf("New(%d, %d, %d): %v, %v", percent, min, window, b, e)
	}
	return b
}

// admit tells it of so many requests, none of which is refused.
func admit(t *testing.T, b *budget.Budget, now, times int) {
	t.Helper()
	for i := range times {
		if e := b.Admit(now); e != api.OK {
			t.Fatalf("Admit(%d), number %d: %v", now, i, e)
		}
	}
}

func full(t *testing.T, b *budget.Budget, now int) {
	t.Helper()
	if e := b.Admit(now); e != api.ErrFull {
		t.Errorf("Admit(%d): %v; want ErrFull", now, e)
	}
}

func can(t *testing.T, b *budget.Budget, now int, want bool) {
	t.Helper()
	if ok, e := b.Can(now); ok != want || e != api.OK {
		t.Errorf("Can(%d): %v, %v; want %v", now, ok, e, want)
	}
}

func allow(t *testing.T, b *budget.Budget, now int, want ...bool) {
	t.Helper()
	for i, x := range want {
		if ok, e := b.Allow(now); ok != x || e != api.OK {
			t.Errorf("Allow(%d), number %d: %v, %v; want %v", now, i, ok, e, x)
		}
	}
}

// allows looks at that just so many are let through at a moment.
func allows(t *testing.T, b *budget.Budget, now, times int) {
	t.Helper()
	allow(t, b, now, slices.Repeat([]bool{true}, times)...)
	allow(t, b, now, false, false)
}

func late(t *testing.T, b *budget.Budget, now, requests, retries int) {
	t.Helper()
	if n, m, e := b.Late(now); n != requests || m != retries || e != api.OK {
		t.Errorf("Late(%d): %d, %d, %v; want %d, %d", now, n, m, e, requests, retries)
	}
}

// The chapter's example.
func TestExample(t *testing.T) {
	b := newBudget(t, 50, 1, 10)
	allow(t, b, 0, true, false)
	admit(t, b, 1, 4)
	allow(t, b, 1, true, false)
}

// 17.1, R4: each argument at the edges of its range, one below and one above; one that is wrong is enough.
func TestNew(t *testing.T) {
	type number struct {
		n     int
		right bool
	}
	far := []number{{-1, false}, {math.MinInt, false}, {math.MaxInt, false}}
	for _, percent := range slices.Concat(far, []number{{0, true}, {1, true}, {99, true}, {100, true}, {101, false}}) {
		for _, least := range slices.Concat(far, []number{{0, true}, {1, true}, {999, true}, {1000, true}, {1001, false}}) {
			for _, window := range slices.Concat(far, []number{{0, false}, {1, true}, {2, true}, {999999, true}, {1000000, true}, {1000001, false}}) {
				if percent.right && least.right && window.right {
					isNew(t, newBudget(t, percent.n, least.n, window.n), percent.n, least.n)
				} else if b, e := budget.New(percent.n, least.n, window.n); b != nil || e != api.ErrArg {
					t.Errorf("New(%d, %d, %d): %v, %v", percent.n, least.n, window.n, b, e)
				}
			}
		}
	}
}

// isNew looks at a budget without any: only its least counts, then its percent of 200 requests too.
func isNew(t *testing.T, b *budget.Budget, percent, least int) {
	t.Helper()
	late(t, b, 0, 0, 0)
	can(t, b, 0, least > 0)
	allows(t, b, 0, least)
	admit(t, b, 0, 200)
	late(t, b, 0, 200, least)
	allows(t, b, 0, max(2*percent-least, 0))
}

// Words: a request, and a retry, is of late for window ticks, its own among them.
func TestOfLate(t *testing.T) {
	for _, window := range []int{1, 2, 10, 999999, 1000000} {
		for _, at := range []int{0, 1, window - 1, window, window + 1, 1 << 61, api.MaxTick - window} {
			b := newBudget(t, 0, 2, window)
			late(t, b, at, 0, 0)
			admit(t, b, at, 3)
			allow(t, b, at, true, true, false)
			late(t, b, at, 3, 2)
			late(t, b, at+window-1, 3, 2)
			can(t, b, at+window-1, false)
			allow(t, b, at+window-1, false)
			late(t, b, at+window, 0, 0)
			can(t, b, at+window, true)
			allow(t, b, at+window, true, true, false)
			late(t, b, api.MaxTick, 0, count(at+window == api.MaxTick, 2))
		}
	}
}

// count is n where something holds, else 0.
func count(holds bool, n int) int {
	if holds {
		return n
	}
	return 0
}

// Words: of a moment that is lesser than window all are of late, also those of 0; at window these are not any more.
func TestAheadOfWindow(t *testing.T) {
	b := newBudget(t, 0, 9, 10)
	admit(t, b, 0, 1)
	allow(t, b, 0, true)
	for now := 1; now < 10; now++ {
		admit(t, b, now, 1)
		late(t, b, now, now+1, 1)
	}
	allow(t, b, 9, true)
	admit(t, b, 10, 1)
	late(t, b, 10, 10, 1)
	late(t, b, 11, 9, 1)
	late(t, b, 18, 2, 1)
	late(t, b, 19, 1, 0)
	late(t, b, 20, 0, 0)
}

// Words: each goes at its own moment; what came at the same one goes together.
func TestOneByOne(t *testing.T) {
	b := newBudget(t, 100, 0, 10)
	for _, now := range []int{100, 101, 101, 103, 109} {
		admit(t, b, now, 1)
		allow(t, b, now, true, false)
	}
	for _, x := range []struct{ now, left int }{{109, 5}, {110, 4}, {111, 2}, {112, 2}, {113, 1}, {118, 1}, {119, 0}} {
		late(t, b, x.now, x.left, x.left)
	}
}

// 17.1, 17.2: the greatest moments of all.
func TestGreatestMoment(t *testing.T) {
	b := newBudget(t, 50, 1, 1000000)
	admit(t, b, api.MaxTick-1000000, 2)
	admit(t, b, api.MaxTick-999999, 2)
	allow(t, b, api.MaxTick-999999, true, true, false)
	late(t, b, api.MaxTick-1, 4, 2)
	allow(t, b, api.MaxTick, false)
	late(t, b, api.MaxTick, 2, 2)
	admit(t, b, api.MaxTick, 4)
	allow(t, b, api.MaxTick, true, false)
	late(t, b, api.MaxTick, 6, 3)
	b = newBudget(t, 100, 0, 1)
	admit(t, b, api.MaxTick-1, 1)
	admit(t, b, api.MaxTick, 1)
	late(t, b, api.MaxTick, 1, 0)
	allow(t, b, api.MaxTick, true, false)
}

// 17.2: percent times the requests divided by 100, rounded down, or min, whichever is more.
func TestShare(t *testing.T) {
	for _, x := range []struct{ percent, min, requests, want int }{
		{0, 0, 0, 0}, {0, 0, 1, 0}, {0, 0, 5000, 0},
		{0, 1, 0, 1}, {0, 1, 5000, 1}, {0, 1000, 3, 1000},
		{100, 0, 0, 0}, {100, 0, 1, 1}, {100, 0, 7, 7}, {100, 3, 2, 3}, {100, 3, 3, 3}, {100, 3, 4, 4},
		{1, 0, 99, 0}, {1, 0, 100, 1}, {1, 0, 199, 1}, {1, 0, 200, 2},
		{99, 0, 1, 0}, {99, 0, 2, 1}, {99, 0, 100, 99}, {99, 0, 101, 99}, {99, 0, 102, 100},
		{50, 0, 1, 0}, {50, 0, 2, 1}, {50, 0, 3, 1}, {50, 0, 4, 2}, {50, 2, 3, 2}, {50, 2, 5, 2}, {50, 2, 6, 3},
		{33, 0, 3, 0}, {33, 0, 4, 1}, {33, 0, 100, 33}, {33, 5, 15, 5}, {33, 5, 19, 6},
		{7, 0, 14, 0}, {7, 0, 15, 1}, {20, 10, 50, 10}, {20, 10, 54, 10}, {20, 10, 55, 11},
	} {
		b := newBudget(t, x.percent, x.min, 10)
		admit(t, b, 5, x.requests)
		allows(t, b, 5, x.want)
		late(t, b, 5, x.requests, x.want)
		// The retries go first, the requests stay: as many again.
		b = newBudget(t, x.percent, x.min, 10)
		allows(t, b, 5, x.min)
		admit(t, b, 6, x.requests)
		allows(t, b, 15, x.want)
		if t.Failed() {
			t.Fatalf("at %+v", x)
		}
	}
}

// 17.2: min and percent are not added up, and where the requests go the retries stay in the way of more.
func TestRequestsGo(t *testing.T) {
	b := newBudget(t, 50, 2, 10)
	admit(t, b, 0, 20)
	allows(t, b, 5, 10)
	late(t, b, 10, 0, 10)
	can(t, b, 14, false)
	allow(t, b, 14, false)
	allows(t, b, 15, 2)
	late(t, b, 15, 0, 2)
}

// 17.2: Can tells what Allow would, and lets none through.
func TestCan(t *testing.T) {
	b := newBudget(t, 50, 1, 10)
	for range 5 {
		can(t, b, 3, true)
	}
	late(t, b, 3, 0, 0)
	allow(t, b, 3, true)
	for range 5 {
		can(t, b, 3, false)
	}
	late(t, b, 3, 0, 1)
	admit(t, b, 4, 4)
	can(t, b, 4, true)
	allow(t, b, 4, true)
	can(t, b, 4, false)
	allow(t, b, 4, false)
	late(t, b, 4, 4, 2)
}

// 17.1: MaxLate requests may be of late, and no more; one that goes makes room for one.
func TestMaxLate(t *testing.T) {
	if budget.MaxLate != 100000 {
		t.Fatalf("MaxLate: %d", budget.MaxLate)
	}
	b := newBudget(t, 0, 0, 10)
	admit(t, b, 3, 1)
	admit(t, b, 4, budget.MaxLate-2)
	late(t, b, 5, budget.MaxLate-1, 0)
	admit(t, b, 5, 1)
	late(t, b, 5, budget.MaxLate, 0)
	full(t, b, 5)
	full(t, b, 12)
	late(t, b, 12, budget.MaxLate, 0)
	admit(t, b, 13, 1)
	full(t, b, 13)
	late(t, b, 13, budget.MaxLate, 0)
	late(t, b, 14, 2, 0)
	admit(t, b, 14, budget.MaxLate-2)
	full(t, b, 14)
	late(t, b, 22, budget.MaxLate-1, 0)
	late(t, b, 23, budget.MaxLate-2, 0)
	late(t, b, 24, 0, 0)
}

// 17.1, 17.2: as many retries as the most requests let through.
func TestMostRetries(t *testing.T) {
	b := newBudget(t, 100, 1000, 1000000)
	admit(t, b, 0, budget.MaxLate)
	for i := range budget.MaxLate {
		if ok, e := b.Allow(i); !ok || e != api.OK {
			t.Fatalf("Allow(%d): %v, %v", i, ok, e)
		}
	}
	allow(t, b, 999999, false, false)
	late(t, b, 999999, budget.MaxLate, budget.MaxLate)
	late(t, b, 1000000, 0, budget.MaxLate-1)
	allow(t, b, 1000000+98999, false)
	allow(t, b, 1000000+99000, true, false)
}

// R4: a request that is refused changes nothing, neither the last moment nor what is of late.
func TestFullChangesNothing(t *testing.T) {
	b := newBudget(t, 0, 1, 10)
	allow(t, b, 0, true)
	admit(t, b, 5, budget.MaxLate)
	full(t, b, 14)
	late(t, b, 9, budget.MaxLate, 1)
	allow(t, b, 9, false)
	full(t, b, 14)
	allow(t, b, 10, true)
	full(t, b, 13)
	// The retry is of 10, not of 14.
	late(t, b, 19, 0, 1)
	late(t, b, 20, 0, 0)
}

// Words: an earlier moment than the last one is taken as that, in each call, whichever was asked last.
func TestBackwards(t *testing.T) {
	asks := map[string]func(b *budget.Budget, now int){
		"Admit": func(b *budget.Budget, now int) { b.Admit(now) }, "Can": func(b *budget.Budget, now int) { b.Can(now) }, "Allow": func(b *budget.Budget, now int) { b.Allow(now) }, "Late": func(b *budget.Budget, now int) { b.Late(now) },
	}
	for name, ask := range asks {
		// What is told at an earlier moment is of the last one.
		b := newBudget(t, 0, 5, 10)
		ask(b, 100)
		n, m, _ := b.Late(100)
		admit(t, b, 0, 1)
		allow(t, b, 99, true)
		late(t, b, 50, n+1, m+1)
		late(t, b, 109, n+1, m+1)
		late(t, b, 110, 0, 0)
		// What is not of late any more does not come back.
		b = newBudget(t, 100, 0, 10)
		admit(t, b, 20, 2)
		allow(t, b, 20, true, true, false)
		ask(b, 29)
		n, m, _ = b.Late(20)
		late(t, b, 29, n, m)
		ask(b, 30)
		n, _, _ = b.Late(30)
		late(t, b, 20, n, 0)
		late(t, b, 0, n, 0)
		can(t, b, 29, n > 0)
		if n > 2 || m > 2 || t.Failed() {
			t.Fatalf("asked by %s: %d, %d", name, n, m)
		}
	}
}

// 17.1, 17.2, R4: what is no moment is told ahead of all else, and changes nothing.
func TestNoMoments(t *testing.T) {
	wrong := func(b *budget.Budget) {
		t.Helper()
		for _, now := range noMoments {
			if e := b.Admit(now); e != api.ErrArg {
				t.Errorf("Admit(%d): %v", now, e)
			}
			if ok, e := b.Can(now); ok || e != api.ErrArg {
				t.Errorf("Can(%d): %v, %v", now, ok, e)
			}
			if ok, e := b.Allow(now); ok || e != api.ErrArg {
				t.Errorf("Allow(%d): %v, %v", now, ok, e)
			}
			if n, m, e := b.Late(now); n != 0 || m != 0 || e != api.ErrArg {
				t.Errorf("Late(%d): %d, %d, %v", now, n, m, e)
			}
		}
	}
	b := newBudget(t, 50, 2, 10)
	wrong(b)
	late(t, b, 0, 0, 0)
	admit(t, b, 3, 6)
	allow(t, b, 3, true)
	wrong(b)
	late(t, b, 3, 6, 1)
	wrong(b)
	allow(t, b, 12, true, true, false)
	wrong(b)
	late(t, b, 12, 6, 3)
	admit(t, b, 12, budget.MaxLate-6)
	wrong(b)
	full(t, b, 12)
	late(t, b, 13, budget.MaxLate-6, 2)
	b = newBudget(t, 50, 2, 10)
	admit(t, b, api.MaxTick, 4)
	wrong(b)
	allow(t, b, api.MaxTick, true, true, false)
	wrong(b)
	late(t, b, api.MaxTick, 4, 2)
	wrong(nil)
}

// Budgets do not hang together.
func TestApart(t *testing.T) {
	a, b := newBudget(t, 100, 0, 10), newBudget(t, 100, 0, 10)
	admit(t, a, 50, 2)
	allow(t, b, 0, false)
	admit(t, b, 3, 1)
	allow(t, a, 51, true, true, false)
	allow(t, b, 3, true, false)
	late(t, b, 3, 1, 1)
	late(t, a, 51, 2, 2)
}

// 17.2, R6: a nil budget admits nothing and allows nothing.
func TestNil(t *testing.T) {
	var b *budget.Budget
	for _, now := range []int{0, 1, 7, api.MaxTick, 3} {
		full(t, b, now)
		can(t, b, now, false)
		allow(t, b, now, false)
		late(t, b, now, 0, 0)
	}
}

// P1: one that New did not make allows nothing either, and does not panic.
func TestNotMade(t *testing.T) {
	b := &budget.Budget{}
	for _, now := range []int{0, 1, 7, api.MaxTick, 3} {
		b.Admit(now)
		b.Late(now)
		can(t, b, now, false)
		allow(t, b, now, false)
	}
}
