package pool_test

import (
	"math"
	"slices"
	"testing"

	"headrace/api"
	"headrace/pool"
)

// noMoments lie outside on both sides, as near and as far as they may; nobodies are no numbers of somebody.
var (
	noMoments = []int{-1, math.MinInt, api.MaxTick + 1, math.MaxInt}
	nobodies  = []int{-1, -2, math.MinInt}
)

func newPool(t *testing.T, cap, pend, idle, life int) *pool.Pool {
	t.Helper()
	p, e := pool.New(cap, pend, idle, life)
	if p == nil || e != api.OK {
		t.Fatalf("New(%d, %d, %d, %d): %v, %v", cap, pend, idle, life, p, e)
	}
	return p
}

func open(conn, who int) pool.Act  { return pool.Act{Kind: pool.Open, Conn: conn, Who: who} }
func reuse(conn, who int) pool.Act { return pool.Act{Kind: pool.Reuse, Conn: conn, Who: who} }
func shut(conn, who int) pool.Act  { return pool.Act{Kind: pool.Close, Conn: conn, Who: who} }
func wait(who int) pool.Act        { return pool.Act{Kind: pool.Wait, Conn: -1, Who: who} }
func full(who int) pool.Act        { return pool.Act{Kind: pool.Full, Conn: -1, Who: who} }

func ask(t *testing.T, p *pool.Pool, now int, want pool.Act) {
	t.Helper()
	if a, e := p.Ask(now, want.Who); a != want || e != api.OK {
		t.Errorf("Ask(%d, %d): %v, %v; want %v", now, want.Who, a, e, want)
	}
}

func noAsk(t *testing.T, p *pool.Pool, now, who int, want api.Errno) {
	t.Helper()
	if a, e := p.Ask(now, who); a != (pool.Act{}) || e != want {
		t.Errorf("Ask(%d, %d): %v, %v; want %v", now, who, a, e, want)
	}
}

func up(t *testing.T, p *pool.Pool, conn, want int) {
	t.Helper()
	if who, e := p.Up(conn); who != want || e != api.OK {
		t.Errorf("Up(%d): %d, %v; want %d", conn, who, e, want)
	}
}

func noUp(t *testing.T, p *pool.Pool, list ...int) {
	t.Helper()
	for _, conn := range list {
		if who, e := p.Up(conn); who != 0 || e != api.ErrNone {
			t.Errorf("Up(%d): %d, %v", conn, who, e)
		}
	}
}

func gone(t *testing.T, p *pool.Pool, now, conn, want int, acts ...pool.Act) {
	t.Helper()
	if who, l, e := p.Gone(now, conn); who != want || !slices.Equal(l, acts) || e != api.OK {
		t.Errorf("Gone(%d, %d): %d, %v, %v; want %d, %v", now, conn, who, l, e, want, acts)
	}
}

func noGone(t *testing.T, p *pool.Pool, now, conn int, want api.Errno) {
	t.Helper()
	if who, l, e := p.Gone(now, conn); who != 0 || len(l) != 0 || e != want {
		t.Errorf("Gone(%d, %d): %d, %v, %v; want %v", now, conn, who, l, e, want)
	}
}

func done(t *testing.T, p *pool.Pool, now, conn int, keep bool, acts ...pool.Act) {
	t.Helper()
	if l, e := p.Done(now, conn, keep); !slices.Equal(l, acts) || e != api.OK {
		t.Errorf("Done(%d, %d, %v): %v, %v; want %v", now, conn, keep, l, e, acts)
	}
}

func noDone(t *testing.T, p *pool.Pool, now, conn int, want api.Errno) {
	t.Helper()
	for _, keep := range []bool{true, false} {
		if l, e := p.Done(now, conn, keep); len(l) != 0 || e != want {
			t.Errorf("Done(%d, %d, %v): %v, %v; want %v", now, conn, keep, l, e, want)
		}
	}
}

func drop(t *testing.T, p *pool.Pool, now, who int, acts ...pool.Act) {
	t.Helper()
	if l, e := p.Drop(now, who); !slices.Equal(l, acts) || e != api.OK {
		t.Errorf("Drop(%d, %d): %v, %v; want %v", now, who, l, e, acts)
	}
}

func noDrop(t *testing.T, p *pool.Pool, now, who int, want api.Errno) {
	t.Helper()
	if l, e := p.Drop(now, who); len(l) != 0 || e != want {
		t.Errorf("Drop(%d, %d): %v, %v; want %v", now, who, l, e, want)
	}
}

func expire(t *testing.T, p *pool.Pool, now int, acts ...pool.Act) {
	t.Helper()
	if l, e := p.Expire(now); !slices.Equal(l, acts) || e != api.OK {
		t.Errorf("Expire(%d): %v, %v; want %v", now, l, e, acts)
	}
}

func next(t *testing.T, p *pool.Pool, want int) {
	t.Helper()
	if at, ok := p.Next(); at != want || !ok {
		t.Errorf("Next: %d, %v; want %d, true", at, ok, want)
	}
}

func noNext(t *testing.T, p *pool.Pool) {
	t.Helper()
	if at, ok := p.Next(); at != 0 || ok {
		t.Errorf("Next: %d, %v; want 0, false", at, ok)
	}
}

func size(t *testing.T, p *pool.Pool, conns, resting, waiting int) {
	t.Helper()
	if x, y, z := p.Size(); x != conns || y != resting || z != waiting {
		t.Errorf("Size: %d, %d, %d; want %d, %d, %d", x, y, z, conns, resting, waiting)
	}
}

// working is a pool of 0 to n-1 that work, born at a moment, connection i for somebody i.
func working(t *testing.T, n, pend, idle, life, now int) *pool.Pool {
	t.Helper()
	p := newPool(t, n, pend, idle, life)
	for i := range n {
		ask(t, p, now, open(i, i))
		up(t, p, i, i)
	}
	return p
}

// The chapter's example.
func TestExample(t *testing.T) {
	p := newPool(t, 1, 1, 5, 100)
	ask(t, p, 0, open(0, 7))
	up(t, p, 0, 7)
	ask(t, p, 0, wait(8))
	ask(t, p, 0, full(9))
	done(t, p, 1, 0, true, reuse(0, 8))
	done(t, p, 2, 0, true)
	ask(t, p, 6, reuse(0, 9))
}

// The kinds' numbers, by which other layers tell them.
func TestKinds(t *testing.T) {
	if l := [5]int{pool.Open, pool.Reuse, pool.Wait, pool.Full, pool.Close}; l != [5]int{1, 2, 3, 4, 5} {
		t.Errorf("%v", l)
	}
}

// 22.1, R4: each argument at the edges of its range, one below and one above; one that is wrong is enough.
func TestNew(t *testing.T) {
	far := []int{-1, math.MinInt, math.MaxInt}
	spans := append(slices.Clone(far), 0, 1, 2, 999999, 1000000, 1000001)
	for _, cap := range append(slices.Clone(far), 0, 1, 2, 63, 64, 65) {
		for _, pend := range append(slices.Clone(far), 0, 1, 63, 64, 65) {
			for _, idle := range spans {
				for _, life := range spans {
					right := cap >= 1 && cap <= 64 && pend >= 0 && pend <= 64 && idle >= 1 && idle <= 1000000 && life >= 1 && life <= 1000000
					p, e := pool.New(cap, pend, idle, life)
					if right && p != nil && e == api.OK {
						isNew(t, p, cap, pend, idle, life)
					} else if right || p != nil || e != api.ErrArg {
						t.Errorf("New(%d, %d, %d, %d): %v, %v", cap, pend, idle, life, p, e)
					}
				}
			}
		}
	}
}

// isNew looks at a pool without connections, and then whether its numbers are those that were asked for.
func isNew(t *testing.T, p *pool.Pool, cap, pend, idle, life int) {
	t.Helper()
	size(t, p, 0, 0, 0)
	noNext(t, p)
	expire(t, p, api.MaxTick)
	noUp(t, p, 0)
	for i := range cap {
		ask(t, p, 10, open(i, i))
	}
	for i := range pend {
		ask(t, p, 10, wait(cap+i))
	}
	ask(t, p, 10, full(cap+pend))
	size(t, p, cap, 0, pend)
	for i := range pend {
		drop(t, p, 10, cap+i)
	}
	up(t, p, 0, 0)
	done(t, p, 10, 0, true)
	next(t, p, 10+min(idle, life))
}

// 22.2: numbers are given in the order in which connections are asked for, also behind some that are there no longer; of one that is used again no new one is.
func TestNumbers(t *testing.T) {
	p := newPool(t, 2, 3, 5, 100)
	ask(t, p, 0, open(0, 50))
	ask(t, p, 0, open(1, 40))
	gone(t, p, 0, 0, 50)
	ask(t, p, 1, open(2, 30))
	drop(t, p, 1, 30, shut(2, 30))
	ask(t, p, 2, open(3, 30))
	up(t, p, 1, 40)
	up(t, p, 3, 30)
	done(t, p, 3, 1, true)
	ask(t, p, 3, reuse(1, 0))
	done(t, p, 3, 1, false, shut(1, -1))
	done(t, p, 3, 3, false, shut(3, -1))
	size(t, p, 0, 0, 0)
	ask(t, p, 3, open(4, 1))
	ask(t, p, 3, open(5, 2))
	ask(t, p, 3, wait(3))
	ask(t, p, 3, wait(4))
	gone(t, p, 4, 4, 1, open(6, 3))
	gone(t, p, 4, 5, 2, open(7, 4))
	noGone(t, p, 4, 4, api.ErrNone)
	noGone(t, p, 4, 8, api.ErrNone)
	up(t, p, 7, 4)
	up(t, p, 6, 3)
}

// 22.2: as many connections as cap and no more, then as many who wait as pend and no more, at the ends of the ranges too.
func TestCaps(t *testing.T) {
	for _, cap := range []int{1, 2, 3, 63, 64} {
		for _, pend := range []int{0, 1, 2, 63, 64} {
			p := newPool(t, cap, pend, 5, 100)
			for i := range cap {
				size(t, p, i, 0, 0)
				ask(t, p, 0, open(i, 1000+i))
			}
			for i := range pend {
				size(t, p, cap, 0, i)
				ask(t, p, 0, wait(2000+i))
			}
			ask(t, p, 0, full(0))
			ask(t, p, 0, full(0))
			size(t, p, cap, 0, pend)
			// With one fewer there is room for just one.
			if pend > 0 {
				drop(t, p, 0, 2000)
				ask(t, p, 0, wait(0))
				ask(t, p, 0, full(1))
				gone(t, p, 1, 0, 1000, open(cap, map[bool]int{true: 0, false: 2001}[pend == 1]))
				size(t, p, cap, 0, pend-1)
			} else {
				gone(t, p, 1, 0, 1000)
				ask(t, p, 1, open(cap, 0))
				ask(t, p, 1, full(1))
			}
		}
	}
}

// 22.2: who has a connection that opens or works, or waits, may not ask; who has done, was dropped, or was told that it is full, may.
func TestAskAgain(t *testing.T) {
	p := newPool(t, 1, 1, 5, 100)
	ask(t, p, 0, open(0, 0))
	noAsk(t, p, 0, 0, api.ErrState)
	up(t, p, 0, 0)
	noAsk(t, p, 0, 0, api.ErrState)
	ask(t, p, 0, wait(1))
	noAsk(t, p, 0, 1, api.ErrState)
	ask(t, p, 0, full(2))
	ask(t, p, 0, full(2))
	// Neither room nor a good one makes another of it.
	done(t, p, 1, 0, true, reuse(0, 1))
	noAsk(t, p, 1, 1, api.ErrState)
	ask(t, p, 1, wait(0))
	drop(t, p, 1, 0)
	ask(t, p, 1, wait(0))
	drop(t, p, 1, 1, shut(0, 1), open(1, 0))
	noAsk(t, p, 1, 0, api.ErrState)
	up(t, p, 1, 0)
	done(t, p, 2, 1, true)
	ask(t, p, 2, reuse(1, 0))
	noAsk(t, p, 2, 0, api.ErrState)
	gone(t, p, 2, 1, 0)
	ask(t, p, 2, open(2, 0))
	// Somebody may be any number from 0 on.
	p = newPool(t, 2, 0, 5, 100)
	ask(t, p, 0, open(0, math.MaxInt))
	ask(t, p, 0, open(1, math.MaxInt-1))
	noAsk(t, p, 0, math.MaxInt, api.ErrState)
	up(t, p, 0, math.MaxInt)
	p = newPool(t, 3, 0, 5, 100)
	ask(t, p, 0, open(0, 0))
	noAsk(t, p, 0, 0, api.ErrState)
	ask(t, p, 0, open(1, 1))
	noAsk(t, p, 0, 1, api.ErrState)
	size(t, p, 2, 0, 0)
}

// 22.2: a connection comes up once, while it opens alone.
func TestUp(t *testing.T) {
	p := newPool(t, 2, 0, 5, 100)
	noUp(t, p, 0, 1, -1, math.MinInt, math.MaxInt)
	ask(t, p, 0, open(0, 7))
	ask(t, p, 0, open(1, 0))
	noUp(t, p, 2, -1)
	up(t, p, 1, 0)
	noUp(t, p, 1)
	up(t, p, 0, 7)
	noUp(t, p, 0, 1)
	done(t, p, 0, 0, true)
	noUp(t, p, 0)
	ask(t, p, 0, reuse(0, 3))
	noUp(t, p, 0)
	gone(t, p, 0, 0, 3)
	noUp(t, p, 0)
	ask(t, p, 0, open(2, 3))
	drop(t, p, 0, 3, shut(2, 3))
	noUp(t, p, 2)
}

// Words: a resting connection is good one tick ahead of its end by idle, not at it, and not behind it.
func TestGoodByIdle(t *testing.T) {
	for _, idle := range []int{1, 2, 5, 999999, 1000000} {
		for _, since := range []int{0, 3, 1 << 61} {
			rested := func() *pool.Pool {
				p := working(t, 1, 1, idle, 1000000, since)
				done(t, p, since, 0, true)
				next(t, p, since+idle)
				return p
			}
			ask(t, rested(), since, reuse(0, 9))
			ask(t, rested(), since+idle-1, reuse(0, 9))
			expire(t, rested(), since+idle-1)
			for _, now := range []int{since + idle, since + idle + 1, api.MaxTick} {
				p := rested()
				ask(t, p, now, wait(9))
				size(t, p, 1, 1, 1)
				p = rested()
				expire(t, p, now, shut(0, -1))
				size(t, p, 0, 0, 0)
			}
		}
	}
	// It rests since its last work was done.
	p := working(t, 1, 0, 5, 1000, 0)
	for now := 1; now < 100; now += 4 {
		done(t, p, now, 0, true)
		next(t, p, now+5)
		ask(t, p, now+4, reuse(0, 0))
	}
}

// Words: it is good one tick ahead of its life's end, not at it, and not behind it, counted from when it was asked for, not from when it was up.
func TestGoodByLife(t *testing.T) {
	for _, life := range []int{2, 5, 999999, 1000000} {
		for _, born := range []int{0, 3, 1 << 61} {
			rested := func() *pool.Pool {
				p := newPool(t, 1, 1, 1000000, life)
				ask(t, p, born, open(0, 0))
				up(t, p, 0, 0)
				done(t, p, born+1, 0, true)
				next(t, p, born+life)
				return p
			}
			ask(t, rested(), born+1, reuse(0, 9))
			ask(t, rested(), born+life-1, reuse(0, 9))
			expire(t, rested(), born+life-1)
			for _, now := range []int{born + life, born + life + 1, api.MaxTick} {
				ask(t, rested(), now, wait(9))
				expire(t, rested(), now, shut(0, -1))
			}
		}
	}
	// Its life goes on while it works again and again.
	p := working(t, 1, 0, 5, 20, 0)
	for now := 1; now < 20; now++ {
		done(t, p, now, 0, true)
		next(t, p, min(now+5, 20))
		ask(t, p, now, reuse(0, 0))
	}
	done(t, p, 20, 0, true, shut(0, -1))
}

// Words: an end beyond the greatest moment is that one, at which nothing is good.
func TestGreatestMoment(t *testing.T) {
	for _, x := range []struct{ idle, life, born, since, end int }{
		{5, 100, 10, 5, 0}, {5, 100, 10, 6, 1}, {5, 100, 10, 4, 0}, {5, 100, 10, 1, 0},
		{100, 5, 5, 2, 0}, {100, 5, 6, 2, 1}, {100, 5, 4, 1, 0}, {1000000, 1000000, 1, 1, 0}, {1000000, 1000000, 1000001, 1000001, 1}, {1, 1, 1, 1, 0},
	} {
		rested := func() *pool.Pool {
			p := working(t, 1, 1, x.idle, x.life, api.MaxTick-x.born)
			done(t, p, api.MaxTick-x.since, 0, true)
			next(t, p, api.MaxTick-x.end)
			return p
		}
		ask(t, rested(), api.MaxTick-x.end-1, reuse(0, 9))
		expire(t, rested(), api.MaxTick-x.end-1)
		for now := api.MaxTick - x.end; now <= api.MaxTick; now++ {
			ask(t, rested(), now, wait(9))
			expire(t, rested(), now, shut(0, -1))
		}
	}
	// At it nothing can be kept, however young.
	p := working(t, 1, 1, 1000000, 1000000, api.MaxTick)
	ask(t, p, api.MaxTick, wait(1))
	done(t, p, api.MaxTick, 0, true, shut(0, -1), open(1, 1))
	up(t, p, 1, 1)
	done(t, p, api.MaxTick, 1, true, shut(1, -1))
	noNext(t, p)
}

// 22.2: of several that rest the one that began to rest last works, whatever its number, also where they began at the same moment.
func TestLastRested(t *testing.T) {
	for _, order := range [][]int{{0, 1, 2}, {0, 2, 1}, {1, 0, 2}, {1, 2, 0}, {2, 0, 1}, {2, 1, 0}} {
		for _, step := range []int{0, 1} {
			p := working(t, 3, 0, 50, 100, 0)
			for i, conn := range order {
				done(t, p, 10+step*i, conn, true)
			}
			size(t, p, 3, 3, 0)
			for i, conn := range slices.Backward(order) {
				ask(t, p, 20, reuse(conn, 100+i))
			}
			ask(t, p, 20, full(9))
			size(t, p, 3, 0, 0)
		}
	}
	// To rest again is to begin again, at the same moment too.
	p := working(t, 3, 0, 50, 100, 0)
	for _, conn := range []int{2, 1, 0} {
		done(t, p, 1, conn, true)
	}
	ask(t, p, 1, reuse(0, 0))
	ask(t, p, 1, reuse(1, 1))
	done(t, p, 1, 0, true)
	done(t, p, 1, 1, true)
	ask(t, p, 1, reuse(1, 1))
	ask(t, p, 1, reuse(0, 0))
	ask(t, p, 1, reuse(2, 2))
}

// 22.2: those that are not good are passed over, though they are there, and are no room for a new one.
func TestSomeGood(t *testing.T) {
	// By life, the one that began to rest last is not good any more.
	p := newPool(t, 3, 1, 50, 20)
	ask(t, p, 0, open(0, 0))
	ask(t, p, 5, open(1, 1))
	ask(t, p, 9, open(2, 2))
	for i := range 3 {
		up(t, p, i, i)
	}
	done(t, p, 10, 2, true)
	done(t, p, 11, 1, true)
	done(t, p, 12, 0, true)
	next(t, p, 20)
	ask(t, p, 20, reuse(1, 7))
	done(t, p, 20, 1, true)
	ask(t, p, 25, reuse(2, 7))
	size(t, p, 3, 2, 0)
	ask(t, p, 25, wait(8))
	ask(t, p, 25, full(9))
	size(t, p, 3, 2, 1)
	// Fewer than cap: a new one, though two rest that are not good.
	p = working(t, 2, 0, 5, 100, 0)
	q := newPool(t, 3, 0, 5, 100)
	ask(t, q, 0, open(0, 0))
	ask(t, q, 0, open(1, 1))
	for i := range 2 {
		up(t, q, i, i)
		done(t, q, 0, i, true)
		done(t, p, 0, i, true)
	}
	ask(t, q, 5, open(2, 7))
	ask(t, q, 5, full(8))
	ask(t, p, 5, full(7))
	size(t, q, 3, 2, 0)
	// A good one comes ahead of a new one.
	p = newPool(t, 2, 0, 5, 100)
	ask(t, p, 0, open(0, 0))
	up(t, p, 0, 0)
	done(t, p, 1, 0, true)
	ask(t, p, 5, reuse(0, 3))
	ask(t, p, 5, open(1, 4))
}

// 22.3: one that is gone tells for whom it opened or worked, or that it rested, and makes room for the first who waits alone.
func TestGone(t *testing.T) {
	p := newPool(t, 3, 3, 5, 100)
	for i := range 3 {
		ask(t, p, 0, open(i, 10+i))
	}
	up(t, p, 1, 11)
	up(t, p, 2, 12)
	done(t, p, 1, 2, true)
	gone(t, p, 1, 2, -1)
	gone(t, p, 1, 1, 11)
	gone(t, p, 1, 0, 10)
	size(t, p, 0, 0, 0)
	for conn := range 3 {
		noGone(t, p, 1, conn, api.ErrNone)
	}
	for i := range 3 {
		ask(t, p, 2, open(3+i, 10+i))
		up(t, p, 3+i, 10+i)
	}
	for i := range 3 {
		ask(t, p, 2, wait(20+i))
	}
	gone(t, p, 3, 4, 11, open(6, 20))
	gone(t, p, 3, 6, 20, open(7, 21))
	// One that rests while somebody waits, since it is not good.
	p = working(t, 1, 2, 5, 100, 0)
	done(t, p, 0, 0, true)
	ask(t, p, 5, wait(8))
	ask(t, p, 5, wait(9))
	gone(t, p, 6, 0, -1, open(1, 8))
	size(t, p, 1, 0, 1)
	// A new one's life begins when it is asked for, here when another is gone.
	up(t, p, 1, 8)
	done(t, p, 105, 1, true, reuse(1, 9))
	done(t, p, 105, 1, true)
	next(t, p, 106)
}

// 22.3: what is done is kept one tick ahead of its life's end, not at it, not behind it, and not without keep.
func TestDone(t *testing.T) {
	for _, life := range []int{1, 2, 7, 999999, 1000000} {
		for _, born := range []int{0, 4, 1 << 61, api.MaxTick - 1000000} {
			fresh := func() *pool.Pool { return working(t, 1, 1, 1000000, life, born) }
			p := fresh()
			done(t, p, born+life-1, 0, true)
			next(t, p, born+life)
			size(t, p, 1, 1, 0)
			for _, x := range []struct {
				now  int
				keep bool
			}{{born + life, true}, {min(born+life+1, api.MaxTick), true}, {born, false}, {born + life - 1, false}, {born + life, false}, {api.MaxTick, true}} {
				p = fresh()
				done(t, p, x.now, 0, x.keep, shut(0, -1))
				size(t, p, 0, 0, 0)
				noNext(t, p)
				p = fresh()
				ask(t, p, born, wait(5))
				done(t, p, x.now, 0, x.keep, shut(0, -1), open(1, 5))
				size(t, p, 1, 0, 0)
			}
		}
	}
}

// 22.3: only one that works can be done.
func TestDoneOfOthers(t *testing.T) {
	p := newPool(t, 2, 1, 5, 100)
	noDone(t, p, 0, 0, api.ErrNone)
	ask(t, p, 0, open(0, 3))
	noDone(t, p, 0, 0, api.ErrNone)
	noDone(t, p, 0, 1, api.ErrNone)
	noDone(t, p, 0, -1, api.ErrNone)
	up(t, p, 0, 3)
	done(t, p, 0, 0, true)
	noDone(t, p, 0, 0, api.ErrNone)
	ask(t, p, 0, reuse(0, 3))
	done(t, p, 0, 0, false, shut(0, -1))
	noDone(t, p, 0, 0, api.ErrNone)
	for _, conn := range []int{math.MinInt, math.MaxInt} {
		noDone(t, p, 0, conn, api.ErrNone)
	}
}

// Words: who waits is served in the order in which they came, by what is kept and by what is new.
func TestServed(t *testing.T) {
	p := working(t, 2, 5, 5, 100, 0)
	for _, who := range []int{30, 10, 50, 20, 40} {
		ask(t, p, 0, wait(who))
	}
	done(t, p, 1, 1, true, reuse(1, 30))
	done(t, p, 1, 1, true, reuse(1, 10))
	done(t, p, 2, 0, false, shut(0, -1), open(2, 50))
	noDone(t, p, 2, 2, api.ErrNone)
	up(t, p, 2, 50)
	// Who comes later stands behind.
	ask(t, p, 2, wait(5))
	drop(t, p, 2, 50, shut(2, 50), open(3, 20))
	gone(t, p, 3, 1, 10, open(4, 40))
	gone(t, p, 3, 3, 20, open(5, 5))
	size(t, p, 2, 0, 0)
	// Many times over, with new ones at the end.
	p = working(t, 1, 3, 5, 1000, 0)
	for who := 1; who < 4; who++ {
		ask(t, p, 0, wait(who))
	}
	for who := 4; who < 200; who++ {
		ask(t, p, 0, full(who))
		done(t, p, 0, 0, true, reuse(0, who-3))
		ask(t, p, 0, wait(who))
		size(t, p, 1, 0, 3)
	}
}

// 22.4: who waits waits no longer: the first, one between, the last; the others stay in their order.
func TestDropWaiting(t *testing.T) {
	for _, who := range []int{11, 12, 13, 14} {
		p := working(t, 1, 4, 5, 100, 0)
		var left []int
		for i := 11; i < 15; i++ {
			ask(t, p, 0, wait(i))
			if i != who {
				left = append(left, i)
			}
		}
		drop(t, p, 1, who)
		noDrop(t, p, 1, who, api.ErrNone)
		size(t, p, 1, 0, 3)
		ask(t, p, 1, wait(who))
		for _, x := range append(left, who) {
			done(t, p, 1, 0, true, reuse(0, x))
		}
		done(t, p, 1, 0, true)
		size(t, p, 1, 1, 0)
	}
}

// 22.4: a connection that opens or works is closed, and who waits is served, the first alone.
func TestDropConnection(t *testing.T) {
	p := newPool(t, 2, 3, 5, 100)
	ask(t, p, 0, open(0, 10))
	ask(t, p, 0, open(1, 11))
	up(t, p, 1, 11)
	for who := 20; who < 23; who++ {
		ask(t, p, 0, wait(who))
	}
	drop(t, p, 1, 10, shut(0, 10), open(2, 20))
	drop(t, p, 1, 11, shut(1, 11), open(3, 21))
	noDrop(t, p, 1, 10, api.ErrNone)
	noDrop(t, p, 1, 11, api.ErrNone)
	drop(t, p, 1, 22)
	drop(t, p, 1, 21, shut(3, 21))
	size(t, p, 1, 0, 0)
	drop(t, p, 1, 20, shut(2, 20))
	size(t, p, 0, 0, 0)
	// One that is used again is closed too; one that rests is nobody's any more.
	p = working(t, 1, 0, 5, 100, 0)
	done(t, p, 1, 0, true)
	noDrop(t, p, 1, 0, api.ErrNone)
	for _, who := range nobodies {
		noDrop(t, p, 1, who, api.ErrNone)
	}
	size(t, p, 1, 1, 0)
	ask(t, p, 1, reuse(0, 4))
	noDrop(t, p, 1, 0, api.ErrNone)
	drop(t, p, 1, 4, shut(0, 4))
}

// 22.4: of none, of some and of all that rest; by their numbers, whatever the order in which they began to rest.
func TestExpire(t *testing.T) {
	p := newPool(t, 5, 2, 10, 100)
	expire(t, p, api.MaxTick)
	p = working(t, 5, 2, 10, 100, 0)
	expire(t, p, api.MaxTick)
	size(t, p, 5, 0, 0)
	done(t, p, 1, 3, true)
	done(t, p, 1, 4, true)
	done(t, p, 2, 0, true)
	done(t, p, 4, 2, true)
	next(t, p, 11)
	expire(t, p, 10)
	size(t, p, 5, 4, 0)
	expire(t, p, 12, shut(0, -1), shut(3, -1), shut(4, -1))
	expire(t, p, 12)
	size(t, p, 2, 1, 0)
	next(t, p, 14)
	for _, conn := range []int{0, 3, 4} {
		noGone(t, p, 12, conn, api.ErrNone)
	}
	expire(t, p, 1000, shut(2, -1))
	noNext(t, p)
	// One that works or opens does not expire, however old.
	ask(t, p, 1000, open(5, 9))
	expire(t, p, api.MaxTick)
	size(t, p, 2, 0, 0)
	up(t, p, 5, 9)
	gone(t, p, 1000, 1, 1)
	// By life and by idle.
	p = newPool(t, 3, 0, 10, 30)
	ask(t, p, 0, open(0, 0))
	ask(t, p, 18, open(1, 1))
	ask(t, p, 18, open(2, 2))
	for i := range 3 {
		up(t, p, i, i)
	}
	done(t, p, 29, 0, true)
	done(t, p, 20, 2, true)
	done(t, p, 21, 1, true)
	expire(t, p, 29)
	expire(t, p, 30, shut(0, -1), shut(2, -1))
	next(t, p, 31)
}

// 22.4: behind the closes who waits is served, in the room that there is now.
func TestExpireServes(t *testing.T) {
	p := working(t, 3, 4, 5, 100, 0)
	done(t, p, 0, 1, true)
	done(t, p, 0, 0, true)
	for who := 10; who < 14; who++ {
		ask(t, p, 5, wait(who))
	}
	expire(t, p, 5, shut(0, -1), shut(1, -1), open(3, 10), open(4, 11))
	size(t, p, 3, 0, 2)
	expire(t, p, 5)
	// More room than waits.
	p = working(t, 3, 4, 5, 100, 0)
	for i := range 3 {
		done(t, p, 0, i, true)
	}
	ask(t, p, 5, wait(10))
	expire(t, p, 6, shut(0, -1), shut(1, -1), shut(2, -1), open(3, 10))
	size(t, p, 1, 0, 0)
	// The new one is born at that moment.
	up(t, p, 3, 10)
	done(t, p, 105, 3, true)
	next(t, p, 106)
}

// 22.5: the first of all ends, by idle and by life; one that works again has none.
func TestNext(t *testing.T) {
	p := newPool(t, 3, 0, 10, 30)
	noNext(t, p)
	ask(t, p, 0, open(0, 0))
	ask(t, p, 10, open(1, 1))
	ask(t, p, 20, open(2, 2))
	noNext(t, p)
	for i := range 3 {
		up(t, p, i, i)
	}
	noNext(t, p)
	done(t, p, 27, 2, true)
	next(t, p, 37)
	done(t, p, 28, 0, true)
	next(t, p, 30)
	done(t, p, 22, 1, true)
	next(t, p, 30)
	gone(t, p, 28, 0, -1)
	next(t, p, 32)
	ask(t, p, 28, reuse(1, 1))
	next(t, p, 37)
	next(t, p, 37)
	done(t, p, 29, 1, true)
	next(t, p, 37)
	ask(t, p, 29, reuse(1, 1))
	ask(t, p, 29, reuse(2, 2))
	noNext(t, p)
	done(t, p, 39, 1, true)
	// What is not good any more rests still, until it expires.
	next(t, p, 40)
	ask(t, p, 50, open(3, 7))
	next(t, p, 40)
	expire(t, p, 50, shut(1, -1))
	noNext(t, p)
}

// 22.5: all that are there count, those that are not good too.
func TestSize(t *testing.T) {
	p := newPool(t, 2, 2, 5, 100)
	size(t, p, 0, 0, 0)
	ask(t, p, 0, open(0, 0))
	size(t, p, 1, 0, 0)
	up(t, p, 0, 0)
	size(t, p, 1, 0, 0)
	ask(t, p, 0, open(1, 1))
	ask(t, p, 0, wait(2))
	ask(t, p, 0, wait(3))
	ask(t, p, 0, full(4))
	size(t, p, 2, 0, 2)
	done(t, p, 0, 0, true, reuse(0, 2))
	size(t, p, 2, 0, 1)
	done(t, p, 0, 0, true, reuse(0, 3))
	done(t, p, 0, 0, true)
	size(t, p, 2, 1, 0)
	ask(t, p, 5, wait(5))
	size(t, p, 2, 1, 1)
	expire(t, p, 5, shut(0, -1), open(2, 5))
	size(t, p, 2, 0, 0)
}

// Words: moments are taken as they come, also earlier ones: what is good is so by the moment that is told, and what began to rest last is so by the order of the calls.
func TestEarlier(t *testing.T) {
	p := working(t, 2, 3, 5, 100, 50)
	done(t, p, 60, 1, true)
	done(t, p, 58, 0, true)
	next(t, p, 63)
	ask(t, p, 64, reuse(1, 10))
	ask(t, p, 64, wait(11))
	ask(t, p, 64, wait(12))
	ask(t, p, 64, wait(13))
	// Ahead of its end it is good again, for who waits, once somebody is served.
	drop(t, p, 62, 12, reuse(0, 11))
	done(t, p, 10, 0, true, reuse(0, 13))
	done(t, p, 9, 1, true)
	done(t, p, 8, 0, true)
	next(t, p, 13)
	ask(t, p, 0, reuse(0, 1))
	ask(t, p, 0, reuse(1, 2))
	// Who asks at such a moment is given it, though others wait.
	p = working(t, 1, 1, 5, 100, 0)
	done(t, p, 0, 0, true)
	ask(t, p, 5, wait(8))
	ask(t, p, 4, reuse(0, 9))
	size(t, p, 1, 0, 1)
	// So it is when another one is gone, or expires.
	for _, x := range []struct {
		name  string
		serve func(p *pool.Pool) []pool.Act
	}{
		{"Gone", func(p *pool.Pool) []pool.Act { _, l, _ := p.Gone(4, 2); return l }},
		{"Expire", func(p *pool.Pool) []pool.Act { l, _ := p.Expire(4); return l }},
	} {
		p = working(t, 3, 3, 5, 100, 0)
		done(t, p, 0, 0, true)
		done(t, p, 0, 1, true)
		for who := 7; who < 10; who++ {
			ask(t, p, 5, wait(who))
		}
		want := []pool.Act{reuse(1, 7), reuse(0, 8)}
		if x.name == "Gone" {
			want = append(want, open(3, 9))
		}
		if l := x.serve(p); !slices.Equal(l, want) {
			t.Errorf("%s: %v; want %v", x.name, l, want)
		}
	}
}

// wrong makes calls that must not go well, of a pool whose connections are told by their states; have are who has one or waits.
func wrong(t *testing.T, p *pool.Pool, opens, works, rests, have []int) {
	t.Helper()
	known := append(append(slices.Clone(opens), works...), rests...)
	far := []int{-1, -2, 900, math.MinInt, math.MaxInt}
	for _, now := range noMoments {
		for _, x := range append(append(slices.Clone(known), have...), far...) {
			noAsk(t, p, now, x, api.ErrArg)
			noGone(t, p, now, x, api.ErrArg)
			noDone(t, p, now, x, api.ErrArg)
			noDrop(t, p, now, x, api.ErrArg)
		}
		if l, e := p.Expire(now); len(l) != 0 || e != api.ErrArg {
			t.Errorf("Expire(%d): %v, %v", now, l, e)
		}
	}
	noUp(t, p, append(append(slices.Clone(works), rests...), far...)...)
	for _, now := range []int{0, 1, 30, api.MaxTick} {
		for _, who := range nobodies {
			noAsk(t, p, now, who, api.ErrArg)
			noDrop(t, p, now, who, api.ErrNone)
		}
		for _, who := range have {
			noAsk(t, p, now, who, api.ErrState)
		}
		for _, conn := range append(append(slices.Clone(opens), rests...), far...) {
			noDone(t, p, now, conn, api.ErrNone)
		}
		for _, conn := range far {
			noGone(t, p, now, conn, api.ErrNone)
		}
		noDrop(t, p, now, 900, api.ErrNone)
	}
}

// 22.1 to 22.4, R1, R4: what is no moment is told first, then who is nobody, then the state; none of them changes anything.
func TestWrong(t *testing.T) {
	p := newPool(t, 2, 2, 5, 100)
	wrong(t, p, nil, nil, nil, nil)
	ask(t, p, 0, open(0, 5))
	wrong(t, p, []int{0}, nil, nil, []int{5})
	up(t, p, 0, 5)
	wrong(t, p, nil, []int{0}, nil, []int{5})
	ask(t, p, 0, open(1, 6))
	wrong(t, p, []int{1}, []int{0}, nil, []int{5, 6})
	ask(t, p, 0, wait(7))
	wrong(t, p, []int{1}, []int{0}, nil, []int{5, 6, 7})
	ask(t, p, 0, wait(8))
	wrong(t, p, []int{1}, []int{0}, nil, []int{5, 6, 7, 8})
	ask(t, p, 0, full(9))
	size(t, p, 2, 0, 2)
	done(t, p, 1, 0, true, reuse(0, 7))
	wrong(t, p, []int{1}, []int{0}, nil, []int{6, 7, 8})
	done(t, p, 2, 0, true, reuse(0, 8))
	wrong(t, p, []int{1}, []int{0}, nil, []int{6, 8})
	done(t, p, 3, 0, true)
	wrong(t, p, []int{1}, nil, []int{0}, []int{6})
	next(t, p, 8)
	size(t, p, 2, 1, 0)
	up(t, p, 1, 6)
	ask(t, p, 8, wait(9))
	wrong(t, p, nil, []int{1}, []int{0}, []int{6, 9})
	expire(t, p, 8, shut(0, -1), open(2, 9))
	wrong(t, p, []int{2}, []int{1}, nil, []int{6, 9})
	drop(t, p, 8, 6, shut(1, 6))
	wrong(t, p, []int{2}, nil, nil, []int{9})
	gone(t, p, 8, 2, 9)
	wrong(t, p, nil, nil, nil, nil)
	ask(t, p, 8, open(3, 9))
}

// R3: who writes to what was told, spare room too, changes neither the pool nor another answer.
func TestAnswersShareNothing(t *testing.T) {
	scribble := func(l []pool.Act) {
		for i := range l[:cap(l)] {
			l[:cap(l)][i] = pool.Act{Kind: -7, Conn: -7, Who: -7}
		}
	}
	p := working(t, 8, 16, 5, 1000, 0)
	for i := range 8 {
		done(t, p, 0, i, true)
	}
	for who := 100; who < 116; who++ {
		ask(t, p, 5, wait(who))
	}
	closed, _ := p.Expire(5)
	dropped, _ := p.Drop(5, 103)
	_, lost, _ := p.Gone(5, 9)
	up(t, p, 10, 102)
	ended, _ := p.Done(5, 10, true)
	scribble(closed)
	if !slices.Equal(dropped, []pool.Act{shut(11, 103), open(16, 108)}) || !slices.Equal(lost, []pool.Act{open(17, 109)}) || !slices.Equal(ended, []pool.Act{reuse(10, 110)}) {
		t.Errorf("other answers became %v, %v, %v", dropped, lost, ended)
	}
	scribble(dropped)
	scribble(lost)
	scribble(ended)
	size(t, p, 8, 0, 5)
	for i, conn := range []int{8, 12, 13, 14, 15} {
		gone(t, p, 5, conn, []int{100, 104, 105, 106, 107}[i], open(18+i, 111+i))
	}
	for i, conn := range []int{10, 16, 17} {
		gone(t, p, 5, conn, []int{110, 108, 109}[i])
	}
	expire(t, p, api.MaxTick)
	size(t, p, 5, 0, 0)
}

// Pools do not hang together.
func TestApart(t *testing.T) {
	a, b := newPool(t, 1, 1, 5, 100), newPool(t, 1, 1, 5, 100)
	ask(t, a, 0, open(0, 3))
	noUp(t, b, 0)
	ask(t, b, 0, open(0, 3))
	up(t, a, 0, 3)
	ask(t, a, 0, wait(4))
	done(t, a, 1, 0, true, reuse(0, 4))
	noDone(t, b, 1, 0, api.ErrNone)
	size(t, b, 1, 0, 0)
	up(t, b, 0, 3)
	done(t, b, 1, 0, true)
	noNext(t, a)
}

// P1, R6: a nil pool, and one that New did not make, have no connections and are full; what is wrong is told first.
func TestNoPool(t *testing.T) {
	for _, p := range []*pool.Pool{nil, {}} {
		for _, now := range []int{0, 1, 7, api.MaxTick, 3} {
			for _, who := range []int{0, 1, 9, math.MaxInt} {
				ask(t, p, now, full(who))
				ask(t, p, now, full(who))
				noDrop(t, p, now, who, api.ErrNone)
				noUp(t, p, who)
				noGone(t, p, now, who, api.ErrNone)
				noDone(t, p, now, who, api.ErrNone)
			}
			expire(t, p, now)
			noNext(t, p)
			size(t, p, 0, 0, 0)
		}
		wrong(t, p, nil, nil, nil, nil)
	}
}
