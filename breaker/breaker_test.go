package breaker_test

import (
	"math"
	"slices"
	"testing"

	"headrace/api"
	"headrace/breaker"
)

// The states, and what Done answers.
const (
	closed, open, halfOpen  = 1, 2, 3
	nothing, closes, opened = 0, 1, 2
)

// noMoments lie outside on both sides, as near and as far as they may.
var noMoments = []int{-1, math.MinInt, api.MaxTick + 1, math.MaxInt}

func newBreaker(t *testing.T, fails, cool, probes int) *breaker.Breaker {
	t.Helper()
	b, e := breaker.New(fails, cool, probes)
	if b == nil || e != api.OK {
		t.Fatalf("New(%d, %d, %d): %v, %v", fails, cool, probes, b, e)
	}
	return b
}

func can(t *testing.T, b *breaker.Breaker, now int, want bool) {
	t.Helper()
	if ok, e := b.Can(now); ok != want || e != api.OK {
		t.Errorf("Can(%d): %v, %v; want %v", now, ok, e, want)
	}
}

func allow(t *testing.T, b *breaker.Breaker, now int, want ...bool) {
	t.Helper()
	for i, x := range want {
		if ok, e := b.Allow(now); ok != x || e != api.OK {
			t.Errorf("Allow(%d), number %d: %v, %v; want %v", now, i, ok, e, x)
		}
	}
}

func done(t *testing.T, b *breaker.Breaker, now int, ok bool, want ...int) {
	t.Helper()
	for i, x := range want {
		if n, e := b.Done(now, ok); n != x || e != api.OK {
			t.Errorf("Done(%d, %v), number %d: %d, %v; want %d", now, ok, i, n, e, x)
		}
	}
}

func state(t *testing.T, b *breaker.Breaker, now, want int) {
	t.Helper()
	if n, e := b.State(now); n != want || e != api.OK {
		t.Errorf("State(%d): %d, %v; want %d", now, n, e, want)
	}
}

// opens makes a closed breaker open at a moment, by so many failures.
func opens(t *testing.T, b *breaker.Breaker, now, fails int) {
	t.Helper()
	done(t, b, now, false, slices.Repeat([]int{nothing}, fails-1)...)
	done(t, b, now, false, opened)
}

// The chapter's example.
func TestExample(t *testing.T) {
	b := newBreaker(t, 2, 10, 1)
	done(t, b, 0, false, nothing)
	done(t, b, 1, false, opened)
	allow(t, b, 10, false)
	allow(t, b, 11, true, false)
	done(t, b, 12, true, closes)
}

// 16.1, R4: each argument at the edges of its range, one below and one above; one that is wrong is enough.
func TestNew(t *testing.T) {
	type number struct {
		n     int
		right bool
	}
	far := []number{{-1, false}, {math.MinInt, false}, {math.MaxInt, false}}
	for _, fails := range slices.Concat(far, []number{{0, true}, {1, true}, {999, true}, {1000, true}, {1001, false}}) {
		for _, cool := range slices.Concat(far, []number{{0, false}, {1, true}, {2, true}, {999999, true}, {1000000, true}, {1000001, false}}) {
			for _, probes := range slices.Concat(far, []number{{0, false}, {1, true}, {2, true}, {99, true}, {100, true}, {101, false}}) {
				if fails.right && cool.right && probes.right {
					b := newBreaker(t, fails.n, cool.n, probes.n)
					state(t, b, 0, closed)
					can(t, b, 0, true)
					allow(t, b, 0, slices.Repeat([]bool{true}, 200)...)
				} else if b, e := breaker.New(fails.n, cool.n, probes.n); b != nil || e != api.ErrArg {
					t.Errorf("New(%d, %d, %d): %v, %v", fails.n, cool.n, probes.n, b, e)
				}
			}
		}
	}
}

// 16.1: with fails 0 it never opens.
func TestNeverOpens(t *testing.T) {
	b := newBreaker(t, 0, 1, 1)
	for i := range 3000 {
		done(t, b, i, false, nothing)
		allow(t, b, i, true)
	}
	done(t, b, api.MaxTick, true, nothing)
	done(t, b, api.MaxTick, false, nothing)
	state(t, b, api.MaxTick, closed)
}

// 16.3: as many failures in a row as fails open it; a good end begins the row anew.
func TestInARow(t *testing.T) {
	for _, fails := range []int{1, 2, 3, 999, 1000} {
		b := newBreaker(t, fails, 10, 1)
		less := slices.Repeat([]int{nothing}, fails-1)
		for range 3 {
			done(t, b, 5, false, less...)
			state(t, b, 5, closed)
			allow(t, b, 5, true, true)
			done(t, b, 5, true, nothing)
		}
		done(t, b, 6, true, nothing, nothing)
		done(t, b, 6, false, less...)
		can(t, b, 7, true)
		done(t, b, 7, false, opened)
		state(t, b, 7, open)
		can(t, b, 7, false)
		allow(t, b, 7, false, false)
	}
}

// Words, 16.2: it is open up to the tick ahead of its end; at the end each call finds it half open.
func TestEnd(t *testing.T) {
	for _, cool := range []int{1, 2, 10, 999999, 1000000} {
		for _, at := range []int{0, 1, 100, 1 << 61, api.MaxTick - cool} {
			ready := func() *breaker.Breaker {
				b := newBreaker(t, 1, cool, 1)
				allow(t, b, at, true)
				done(t, b, at, false, opened)
				for _, now := range []int{at, at + cool - 1} {
					state(t, b, now, open)
					can(t, b, now, false)
					allow(t, b, now, false)
					done(t, b, now, true, nothing)
					done(t, b, now, false, nothing)
				}
				return b
			}
			end := at + cool
			state(t, ready(), end, halfOpen)
			can(t, ready(), end, true)
			allow(t, ready(), end, true, false)
			done(t, ready(), end, true, closes)
			done(t, ready(), end, false, opened)
			state(t, ready(), api.MaxTick, halfOpen)
			// Half open it stays, though nobody ends and time goes by.
			b := ready()
			allow(t, b, end, true, false)
			state(t, b, api.MaxTick, halfOpen)
			allow(t, b, api.MaxTick, false)
		}
	}
}

// Words: an end that would lie beyond the greatest moment is that one.
func TestEndAtGreatest(t *testing.T) {
	for _, cool := range []int{2, 10, 1000000} {
		b := newBreaker(t, 1, cool, 1)
		done(t, b, api.MaxTick-1, false, opened)
		state(t, b, api.MaxTick-1, open)
		allow(t, b, api.MaxTick-1, false)
		state(t, b, api.MaxTick, halfOpen)
		allow(t, b, api.MaxTick, true, false)
		done(t, b, api.MaxTick, false, opened)
		// It opened at its end, which is where it is asked again.
		state(t, b, api.MaxTick, halfOpen)
		allow(t, b, api.MaxTick, true, false)
		done(t, b, api.MaxTick, true, closes)
		done(t, b, api.MaxTick, false, opened)
		can(t, b, api.MaxTick, true)
	}
}

// 16.2: half open at most probes are started; those that ended make no room. Can starts none.
func TestProbes(t *testing.T) {
	for _, probes := range []int{1, 2, 3, 99, 100} {
		b := newBreaker(t, 2, 10, probes)
		opens(t, b, 0, 2)
		for range 2 * probes {
			can(t, b, 10, true)
		}
		for i := range probes {
			can(t, b, 10+i, true)
			allow(t, b, 10+i, true)
		}
		can(t, b, 200, false)
		allow(t, b, 200, false, false)
		done(t, b, 200, true, slices.Repeat([]int{nothing}, probes-1)...)
		can(t, b, 200, false)
		allow(t, b, 200, false)
		state(t, b, 200, halfOpen)
		done(t, b, 201, true, closes)
		state(t, b, 201, closed)
		allow(t, b, 201, slices.Repeat([]bool{true}, 2*probes)...)
	}
}

// 16.3: as many good ends as probes close it, also of attempts that were not started by then.
func TestGood(t *testing.T) {
	b := newBreaker(t, 1, 10, 3)
	opens(t, b, 0, 1)
	done(t, b, 10, true, nothing, nothing)
	state(t, b, 10, halfOpen)
	allow(t, b, 10, true, true, true, false)
	done(t, b, 11, true, closes)
	done(t, b, 11, true, nothing, nothing)
	state(t, b, 11, closed)
}

// 16.3: one bad end opens it again, from its own moment on; what was started and good before counts no more.
func TestBad(t *testing.T) {
	for _, good := range []int{0, 1, 2} {
		for _, started := range []int{0, 1, 2, 3} {
			b := newBreaker(t, 5, 10, 3)
			opens(t, b, 0, 5)
			allow(t, b, 15, slices.Repeat([]bool{true}, started)...)
			done(t, b, 16, true, slices.Repeat([]int{nothing}, good)...)
			done(t, b, 17, false, opened)
			state(t, b, 17, open)
			done(t, b, 17, false, nothing)
			allow(t, b, 26, false)
			state(t, b, 27, halfOpen)
			allow(t, b, 27, true, true, true, false)
			done(t, b, 28, true, nothing, nothing, closes)
		}
	}
}

// 16.3: behind its closing failures are counted from the first on, whatever was before.
func TestClosesWithoutFailures(t *testing.T) {
	b := newBreaker(t, 3, 10, 2)
	opens(t, b, 0, 3)
	done(t, b, 1, false, nothing, nothing, nothing)
	allow(t, b, 10, true, true, false)
	done(t, b, 10, true, nothing, closes)
	done(t, b, 10, false, nothing, nothing)
	done(t, b, 10, true, nothing)
	done(t, b, 10, false, nothing, nothing, opened)
	state(t, b, 19, open)
	state(t, b, 20, halfOpen)
}

// 16.3: ends while it is open do nothing: they count neither as failures nor as good, nor do they move its end.
func TestEndsWhileOpen(t *testing.T) {
	b := newBreaker(t, 2, 10, 2)
	opens(t, b, 0, 2)
	for now := range 10 {
		done(t, b, now, true, nothing, nothing)
		done(t, b, now, false, nothing, nothing)
		state(t, b, now, open)
	}
	allow(t, b, 10, true)
	done(t, b, 10, true, nothing)
	state(t, b, 10, halfOpen)
	done(t, b, 10, true, closes)
	done(t, b, 10, false, nothing)
	done(t, b, 10, false, opened)
}

// Words: an earlier moment than the last one is taken as that, in each call, whichever was asked last.
func TestBackwards(t *testing.T) {
	asks := map[string]func(b *breaker.Breaker, now int){
		"Can": func(b *breaker.Breaker, now int) { b.Can(now) }, "Allow": func(b *breaker.Breaker, now int) { b.Allow(now) }, "State": func(b *breaker.Breaker, now int) { b.State(now) }, "Done": func(b *breaker.Breaker, now int) { b.Done(now, true) },
	}
	for name, ask := range asks {
		// Closed: it opens at the last moment, not at the earlier one.
		b := newBreaker(t, 1, 10, 3)
		ask(b, 100)
		done(t, b, 50, false, opened)
		state(t, b, 60, open)
		state(t, b, 109, open)
		state(t, b, 110, halfOpen)
		// Open: the end has come, whatever is said then.
		b = newBreaker(t, 1, 10, 3)
		opens(t, b, 20, 1)
		ask(b, 29)
		state(t, b, 0, open)
		ask(b, 30)
		state(t, b, 0, halfOpen)
		can(t, b, 20, true)
		allow(t, b, 21, true)
		// Half open: it opens again at the last moment.
		ask(b, 70)
		state(t, b, 0, halfOpen)
		done(t, b, 31, false, opened)
		state(t, b, 79, open)
		state(t, b, 80, halfOpen)
		if t.Failed() {
			t.Fatalf("asked by %s", name)
		}
	}
}

// 16.2, 16.3, R4: what is no moment is told, and changes nothing, in any state.
func TestNoMoments(t *testing.T) {
	wrong := func(b *breaker.Breaker) {
		t.Helper()
		for _, now := range noMoments {
			if ok, e := b.Can(now); ok || e != api.ErrArg {
				t.Errorf("Can(%d): %v, %v", now, ok, e)
			}
			if ok, e := b.Allow(now); ok || e != api.ErrArg {
				t.Errorf("Allow(%d): %v, %v", now, ok, e)
			}
			if n, e := b.State(now); n != 0 || e != api.ErrArg {
				t.Errorf("State(%d): %d, %v", now, n, e)
			}
			for _, ok := range []bool{true, false} {
				if n, e := b.Done(now, ok); n != 0 || e != api.ErrArg {
					t.Errorf("Done(%d, %v): %d, %v", now, ok, n, e)
				}
			}
		}
	}
	b := newBreaker(t, 2, 10, 2)
	wrong(b)
	done(t, b, 0, false, nothing)
	wrong(b)
	done(t, b, 0, false, opened)
	wrong(b)
	state(t, b, 9, open)
	wrong(b)
	allow(t, b, 10, true)
	wrong(b)
	allow(t, b, 10, true)
	wrong(b)
	allow(t, b, 10, false)
	done(t, b, 10, true, nothing)
	wrong(b)
	done(t, b, 10, true, closes)
	wrong(b)
	state(t, b, 10, closed)
	wrong(nil)
}

// Breakers do not hang together.
func TestApart(t *testing.T) {
	a, b := newBreaker(t, 1, 10, 1), newBreaker(t, 1, 10, 1)
	done(t, a, 50, false, opened)
	state(t, b, 0, closed)
	done(t, b, 3, false, opened)
	state(t, b, 13, halfOpen)
	state(t, a, 13, open)
}

// P1, R6: a nil breaker, and one that New did not make, allow nothing and are in no state.
func TestNoBreaker(t *testing.T) {
	for _, b := range []*breaker.Breaker{nil, {}} {
		for _, now := range []int{0, 1, 7, api.MaxTick} {
			can(t, b, now, false)
			allow(t, b, now, false)
			done(t, b, now, true, nothing)
			done(t, b, now, false, nothing)
			state(t, b, now, 0)
		}
	}
}
