package bucket_test

import (
	"math"
	"slices"
	"testing"

	"headrace/api"
	"headrace/bucket"
	"headrace/config"
)

// noMoments lie outside on both sides, as near and as far as they may.
var noMoments = []int{-1, math.MinInt, api.MaxTick + 1, math.MaxInt}

func newBucket(t *testing.T, rate, per, burst, now int) *bucket.Bucket {
	t.Helper()
	b, e := bucket.New(rate, per, burst, now)
	if b == nil || e != api.OK {
		t.Fatalf("New(%d, %d, %d, %d): %v, %v", rate, per, burst, now, b, e)
	}
	return b
}

func take(t *testing.T, b *bucket.Bucket, now int, want ...bool) {
	t.Helper()
	for i, x := range want {
		if ok, e := b.Take(now); ok != x || e != api.OK {
			t.Errorf("Take(%d), number %d: %v, %v; want %v", now, i, ok, e, x)
		}
	}
}

func tokens(t *testing.T, b *bucket.Bucket, now, want int) {
	t.Helper()
	if n, e := b.Tokens(now); n != want || e != api.OK {
		t.Errorf("Tokens(%d): %d, %v; want %d", now, n, e, want)
	}
}

func next(t *testing.T, b *bucket.Bucket, want int) {
	t.Helper()
	if at, ok := b.Next(); at != want || !ok {
		t.Errorf("Next: %d, %v; want %d, true", at, ok, want)
	}
}

func noNext(t *testing.T, b *bucket.Bucket) {
	t.Helper()
	if at, ok := b.Next(); at != 0 || ok {
		t.Errorf("Next: %d, %v; want 0, false", at, ok)
	}
}

// drain takes all tokens of a moment: how many they were.
func drain(t *testing.T, b *bucket.Bucket, now int) int {
	t.Helper()
	for n := 0; ; n++ {
		ok, e := b.Take(now)
		if e != api.OK || n > config.MaxSpan {
			t.Fatalf("Take(%d), number %d: %v, %v", now, n, ok, e)
		}
		if !ok {
			return n
		}
	}
}

// The chapter's example.
func TestExample(t *testing.T) {
	b := newBucket(t, 1, 10, 2, 0)
	take(t, b, 0, true, true, false)
	next(t, b, 10)
	take(t, b, 9, false)
	take(t, b, 10, true)
}

// 15.1, R4: each argument at the edges of its range, one below and one above; one that is wrong is enough.
func TestNew(t *testing.T) {
	type number struct {
		n     int
		right bool
	}
	counts := []number{{0, true}, {1, true}, {7, true}, {999999, true}, {1000000, true}, {1000001, false}, {-1, false}, {math.MinInt, false}, {math.MaxInt, false}}
	spans := slices.Clone(counts)
	spans[0].right = false
	moments := []number{{0, true}, {1, true}, {api.MaxTick - 1, true}, {api.MaxTick, true}, {api.MaxTick + 1, false}, {-1, false}, {math.MinInt, false}, {math.MaxInt, false}}
	for _, rate := range counts {
		for _, per := range spans {
			for _, burst := range counts {
				for _, now := range moments {
					if rate.right && per.right && burst.right && now.right {
						isFull(t, newBucket(t, rate.n, per.n, burst.n, now.n), burst.n, now.n)
					} else if b, e := bucket.New(rate.n, per.n, burst.n, now.n); b != nil || e != api.ErrArg {
						t.Errorf("New(%d, %d, %d, %d): %v, %v", rate.n, per.n, burst.n, now.n, b, e)
					}
				}
			}
		}
	}
}

// isFull looks at a bucket that is new at a moment, also from an earlier one.
func isFull(t *testing.T, b *bucket.Bucket, burst, now int) {
	t.Helper()
	if burst > 0 {
		next(t, b, now)
	} else {
		noNext(t, b)
	}
	tokens(t, b, 0, burst)
	tokens(t, b, now, burst)
	take(t, b, now, burst > 0)
	tokens(t, b, now, max(burst-1, 0))
}

// 15.1: a token comes again when per of the level has, and what lies between two tokens is kept.
func TestRefill(t *testing.T) {
	b := newBucket(t, 3, 10, 2, 0)
	take(t, b, 0, true, true, false)
	take(t, b, 3, false)       // 9
	take(t, b, 4, true, false) // 12, then 2
	tokens(t, b, 6, 0)         // 8
	next(t, b, 7)
	take(t, b, 7, true, false) // 11, then 1
	next(t, b, 10)
	take(t, b, 10, true, false) // 10, then 0
	next(t, b, 14)
}

// 15.1: the level stops at burst times per; what comes beyond is lost.
func TestStopsAtBurst(t *testing.T) {
	b := newBucket(t, 3, 10, 2, 0)
	take(t, b, 0, true, true, false)
	tokens(t, b, 6, 1) // 18
	tokens(t, b, 7, 2) // 20, not 21
	take(t, b, 7, true, true, false)
	tokens(t, b, 10, 0) // 9, not 10
	next(t, b, 11)
	tokens(t, b, 1000, 2)
	take(t, b, 1000, true, true, false)
	next(t, b, 1004)
	// A full bucket grows no fuller, but goes on in time.
	b = newBucket(t, 1, 10, 1, 0)
	tokens(t, b, 95, 1)
	take(t, b, 95, true, false)
	next(t, b, 105)
	take(t, b, 104, false)
	take(t, b, 105, true)
}

// 15.1: a moment that is not behind the bucket's own changes nothing: its level is the one of its own.
func TestBackwards(t *testing.T) {
	b := newBucket(t, 1, 10, 3, 100)
	take(t, b, 0, true, true)
	next(t, b, 100)
	take(t, b, 99, true, false)
	next(t, b, 110)
	for _, now := range []int{0, 99, 100} {
		tokens(t, b, now, 0)
		take(t, b, now, false)
	}
	next(t, b, 110)
	take(t, b, 109, false)
	take(t, b, 50, false)
	take(t, b, 109, false)
	tokens(t, b, 120, 2)
	take(t, b, 110, true) // its own is 120 by now
	take(t, b, 0, true, false)
	next(t, b, 130)
}

// 15.1: no rate: what was taken does not come again. No burst: there is never a token. Neither.
func TestNoughts(t *testing.T) {
	for _, per := range []int{1, 10, 1000000} {
		b := newBucket(t, 0, per, 2, 5)
		take(t, b, 5, true)
		next(t, b, 5)
		take(t, b, api.MaxTick, true, false)
		noNext(t, b)
		tokens(t, b, api.MaxTick, 0)
		for _, rate := range []int{0, 1, 1000000} {
			b := newBucket(t, rate, per, 0, 5)
			for _, now := range []int{5, 6, 5 + per, 1 << 61, api.MaxTick, 0} {
				noNext(t, b)
				take(t, b, now, false)
				tokens(t, b, now, 0)
			}
		}
	}
}

// 15.1: the greatest numbers of all, and the least.
func TestGreatest(t *testing.T) {
	b := newBucket(t, 1000000, 1000000, 1000000, 0)
	if n := drain(t, b, 0); n != 1000000 {
		t.Errorf("%d tokens", n)
	}
	next(t, b, 1)
	tokens(t, b, 1, 1)
	tokens(t, b, 999999, 999999)
	tokens(t, b, 1000000, 1000000)
	tokens(t, b, 1000001, 1000000)
	tokens(t, b, api.MaxTick, 1000000)

	b = newBucket(t, 1, 1000000, 1, 0)
	take(t, b, 0, true, false)
	next(t, b, 1000000)
	take(t, b, 999999, false)
	take(t, b, 1000000, true, false)

	b = newBucket(t, 1000000, 1, 1000000, 0)
	drain(t, b, 0)
	next(t, b, 1)
	if n := drain(t, b, 1); n != 1000000 {
		t.Errorf("%d tokens", n)
	}
	b = newBucket(t, 1, 1, 1, 0)
	for now := range 100 {
		take(t, b, now, true, false)
		next(t, b, now+1)
	}
}

// 15.1: so many ticks that the rate times them is no number any more, or wraps round to nothing.
func TestLongWaits(t *testing.T) {
	for _, rate := range []int{1, 2, 3, 4, 5, 8, 1 << 19, 999999, 1000000} {
		for _, wait := range []int{1 << 40, 1 << 44, 1 << 45, 1<<45 + 1, 1 << 60, 1 << 61, 1<<62 - 1, 1 << 62} {
			for _, burst := range []int{1, 2, 1000} {
				b := newBucket(t, rate, 7, burst, 0)
				drain(t, b, 0)
				tokens(t, b, wait, burst)
				if n := drain(t, b, wait); n != burst {
					t.Errorf("rate %d, burst %d, behind %d ticks: %d tokens", rate, burst, wait, n)
				}
			}
		}
	}
}

// 15.1: the first moment with a token may be the greatest of all, but not one behind it.
func TestNextAtTheEnd(t *testing.T) {
	for _, x := range []struct{ rate, per, wait int }{{1, 1, 1}, {1, 10, 10}, {3, 10, 4}, {5, 10, 2}, {11, 10, 1}, {1, 1000000, 1000000}, {1000000, 1, 1}, {999999, 1000000, 2}} {
		b := newBucket(t, x.rate, x.per, 1, api.MaxTick-x.wait-1)
		take(t, b, 0, true, false)
		next(t, b, api.MaxTick-1)
		b = newBucket(t, x.rate, x.per, 1, api.MaxTick-x.wait)
		take(t, b, 0, true, false)
		next(t, b, api.MaxTick)
		take(t, b, api.MaxTick-1, false)
		next(t, b, api.MaxTick)
		take(t, b, api.MaxTick, true, false)
		noNext(t, b)
		b = newBucket(t, x.rate, x.per, 1, api.MaxTick-x.wait+1)
		next(t, b, api.MaxTick-x.wait+1)
		take(t, b, 0, true, false)
		noNext(t, b)
		take(t, b, api.MaxTick, false)
		noNext(t, b)
	}
	b := newBucket(t, 1, 1, 2, api.MaxTick)
	next(t, b, api.MaxTick)
	take(t, b, api.MaxTick, true)
	next(t, b, api.MaxTick)
	take(t, b, api.MaxTick, true, false)
	noNext(t, b)
}

// 15.1, R4: what is no moment is told, and changes nothing.
func TestNoMoments(t *testing.T) {
	b := newBucket(t, 1, 10, 2, 100)
	wrong := func(want int) {
		t.Helper()
		for _, now := range noMoments {
			if ok, e := b.Take(now); ok || e != api.ErrArg {
				t.Errorf("Take(%d): %v, %v", now, ok, e)
			}
			if n, e := b.Tokens(now); n != 0 || e != api.ErrArg {
				t.Errorf("Tokens(%d): %d, %v", now, n, e)
			}
			next(t, b, want)
		}
	}
	wrong(100)
	tokens(t, b, 100, 2)
	take(t, b, 100, true, true, false)
	wrong(110)
	take(t, b, 109, false)
	wrong(110)
	take(t, b, 110, true, false)
}

// 15.1: Next changes nothing, however often it is asked (R6).
func TestNextStays(t *testing.T) {
	b := newBucket(t, 1, 10, 1, 0)
	for range 3 {
		next(t, b, 0)
	}
	take(t, b, 0, true)
	for range 3 {
		next(t, b, 10)
	}
	take(t, b, 9, false)
	for range 3 {
		next(t, b, 10)
	}
	take(t, b, 10, true)
}

// Buckets do not hang together.
func TestBucketsApart(t *testing.T) {
	a, b := newBucket(t, 1, 10, 1, 0), newBucket(t, 1, 10, 1, 0)
	take(t, a, 50, true, false)
	next(t, a, 60)
	next(t, b, 0)
	take(t, b, 3, true, false)
	next(t, b, 13)
	next(t, a, 60)
}

// P1, R6: a nil bucket, and one that New did not make, take nothing and have nothing.
func TestNoBucket(t *testing.T) {
	for _, b := range []*bucket.Bucket{nil, {}} {
		for _, now := range []int{0, 1, 7, api.MaxTick} {
			noNext(t, b)
			take(t, b, now, false)
			tokens(t, b, now, 0)
		}
		for _, now := range noMoments {
			if ok, e := b.Take(now); ok || e != api.ErrArg {
				t.Errorf("Take(%d): %v, %v", now, ok, e)
			}
			if n, e := b.Tokens(now); n != 0 || e != api.ErrArg {
				t.Errorf("Tokens(%d): %d, %v", now, n, e)
			}
		}
		noNext(t, b)
	}
}
