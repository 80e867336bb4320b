package attempt_test

import (
	"math"
	"slices"
	"testing"

	"headrace/api"
	"headrace/attempt"
)

// noMoments, noReasons and noStatuses lie outside on both sides, as near and as far as they may; noReasons has Bad too, which is no failing.
var (
	noMoments  = []int{-1, math.MinInt, api.MaxTick + 1, math.MaxInt}
	noReasons  = []int{0, attempt.Bad, -1, math.MinInt, math.MaxInt}
	noStatuses = []int{199, 600, 0, 100, -200, math.MinInt, math.MaxInt}
)

var (
	reasons = []int{attempt.Refused, attempt.Broken, attempt.Late, attempt.Busy}
	both    = []bool{false, true}
)

// roomy is a plan of which nothing happens by time for long.
var roomy = attempt.Plan{Retries: 2, Hedges: 2, HedgeAfter: 100, PerTry: 1000, Total: 10000, Safe: true}

func try(id, n int) attempt.Act { return attempt.Act{Kind: attempt.Try, ID: id, N: n} }
func cancel(id int) attempt.Act { return attempt.Act{Kind: attempt.Cancel, ID: id} }
func win(id int) attempt.Act    { return attempt.Act{Kind: attempt.Win, ID: id} }
func answer(id, status int) attempt.Act {
	return attempt.Act{Kind: attempt.Answer, ID: id, N: status}
}

func begin(t *testing.T, p attempt.Plan, now int) *attempt.Request {
	t.Helper()
	r, l, e := attempt.Begin(p, now)
	if r == nil || e != api.OK || !slices.Equal(l, []attempt.Act{try(0, 0)}) {
		t.Fatalf("Begin(%+v, %d): %v, %v, %v", p, now, r, l, e)
	}
	return r
}

func fail(t *testing.T, r *attempt.Request, now, id, why int, allow bool, want ...attempt.Act) {
	t.Helper()
	if l, e := r.Fail(now, id, why, allow); !slices.Equal(l, want) || e != api.OK {
		t.Errorf("Fail(%d, %d, %d, %v): %v, %v; want %v", now, id, why, allow, l, e, want)
	}
}

func head(t *testing.T, r *attempt.Request, now, id, status int, allow bool, want ...attempt.Act) {
	t.Helper()
	if l, e := r.Head(now, id, status, allow); !slices.Equal(l, want) || e != api.OK {
		t.Errorf("Head(%d, %d, %d, %v): %v, %v; want %v", now, id, status, allow, l, e, want)
	}
}

func pass(t *testing.T, r *attempt.Request, now int, allow bool, want ...attempt.Act) {
	t.Helper()
	if l, e := r.Time(now, allow); !slices.Equal(l, want) || e != api.OK {
		t.Errorf("Time(%d, %v): %v, %v; want %v", now, allow, l, e, want)
	}
}

func noFail(t *testing.T, r *attempt.Request, now, id, why int, want api.Errno) {
	t.Helper()
	for _, allow := range both {
		if l, e := r.Fail(now, id, why, allow); len(l) != 0 || e != want {
			t.Errorf("Fail(%d, %d, %d, %v): %v, %v; want %v", now, id, why, allow, l, e, want)
		}
	}
}

func noHead(t *testing.T, r *attempt.Request, now, id, status int, want api.Errno) {
	t.Helper()
	for _, allow := range both {
		if l, e := r.Head(now, id, status, allow); len(l) != 0 || e != want {
			t.Errorf("Head(%d, %d, %d, %v): %v, %v; want %v", now, id, status, allow, l, e, want)
		}
	}
}

// runs looks at what may be asked of a request that is not over: when time does something next, and who runs.
func runs(t *testing.T, r *attempt.Request, next int, ids ...int) {
	t.Helper()
	if n, ok := r.Next(); n != next || !ok {
		t.Errorf("Next: %d, %v; want %d", n, ok, next)
	}
	if l := r.Running(); !slices.Equal(l, ids) {
		t.Errorf("Running: %v; want %v", l, ids)
	}
	if r.Over() {
		t.Error("it is over")
	}
}

func over(t *testing.T, r *attempt.Request) {
	t.Helper()
	if n, ok := r.Next(); n != 0 || ok {
		t.Errorf("Next: %d, %v; want none", n, ok)
	}
	if l := r.Running(); len(l) != 0 {
		t.Errorf("Running: %v; want none", l)
	}
	if !r.Over() {
		t.Error("it is not over")
	}
}

// hedged is a request of which so many attempts run: the first one since 0, a hedge since each moment behind it.
func hedged(t *testing.T, p attempt.Plan, at ...int) *attempt.Request {
	t.Helper()
	r := begin(t, p, 0)
	for i, now := range at {
		pass(t, r, now, true, try(i+1, 2))
	}
	return r
}

// 25.1: each number of a plan, and the moment, at the ends of its range and one beyond.
func TestBegin(t *testing.T) {
	right := attempt.Plan{Retries: 1, Hedges: 1, HedgeAfter: 5, PerTry: 7, Total: 9}
	for _, x := range []struct {
		name  string
		set   func(p *attempt.Plan, n int)
		least int
		most  int
	}{
		{"Retries", func(p *attempt.Plan, n int) { p.Retries = n }, 0, 5},
		{"Hedges", func(p *attempt.Plan, n int) { p.Hedges = n }, 0, 3},
		{"HedgeAfter", func(p *attempt.Plan, n int) { p.HedgeAfter = n }, 1, 1000000},
		{"PerTry", func(p *attempt.Plan, n int) { p.PerTry = n }, 1, 1000000},
		{"Total", func(p *attempt.Plan, n int) { p.Total = n }, 1, 1000000},
	} {
		for _, n := range []int{x.least, x.least + 1, x.most - 1, x.most} {
			p := right
			x.set(&p, n)
			begin(t, p, 3)
		}
		for _, n := range []int{x.least - 1, x.most + 1, math.MinInt, math.MaxInt} {
			p := right
			x.set(&p, n)
			if r, l, e := attempt.Begin(p, 3); r != nil || len(l) != 0 || e != api.ErrArg {
				t.Errorf("%s %d: %v, %v, %v", x.name, n, r, l, e)
			}
		}
	}
	for _, now := range []int{0, 1, api.MaxTick - 1, api.MaxTick} {
		begin(t, right, now)
	}
	for _, now := range noMoments {
		if r, l, e := attempt.Begin(right, now); r != nil || len(l) != 0 || e != api.ErrArg {
			t.Errorf("%d: %v, %v, %v", now, r, l, e)
		}
	}
	if r, l, e := attempt.Begin(attempt.Plan{}, 0); r != nil || len(l) != 0 || e != api.ErrArg {
		t.Errorf("no plan: %v, %v, %v", r, l, e)
	}
}

// failed is the status of an answer where an attempt failed and is not made again.
func failed(why int) int {
	return []int{0, 503, 502, 504, 503}[why]
}

// 25.2: each way to fail, with and without allow, of a request that is safe and of one that is not, with retries left and without, where others run and where none does.
func TestFail(t *testing.T) {
	for _, why := range reasons {
		for _, allow := range both {
			for _, safe := range both {
				for retries := range 3 {
					p := roomy
					p.Safe, p.Retries = safe, retries
					again := allow && retries > 0 && (safe || why == attempt.Refused || why == attempt.Busy)

					r := begin(t, p, 10)
					if again {
						fail(t, r, 20, 0, why, allow, try(1, 1))
						runs(t, r, 120, 1)
					} else {
						fail(t, r, 20, 0, why, allow, answer(0, failed(why)))
						over(t, r)
					}

					r = hedged(t, p, 100)
					fail(t, r, 110, 0, why, allow)
					runs(t, r, 200, 1)
					if again {
						fail(t, r, 120, 1, why, allow, try(2, 1))
						runs(t, r, 220, 2)
					} else {
						fail(t, r, 120, 1, why, allow, answer(1, failed(why)))
						over(t, r)
					}

					r = hedged(t, p, 100)
					fail(t, r, 110, 1, why, allow)
					runs(t, r, 200, 0)
				}
			}
		}
	}
}

// 25.2: retries are made as long as there are fewer than Retries; a failing that needs none, since others run, is not counted.
func TestRetries(t *testing.T) {
	for retries := range 6 {
		p := roomy
		p.Retries = retries
		for _, why := range reasons {
			r := begin(t, p, 0)
			for i := range retries {
				fail(t, r, i, i, why, true, try(i+1, 1))
			}
			fail(t, r, 9, retries, why, true, answer(retries, failed(why)))
			over(t, r)
		}
		r := begin(t, p, 0)
		for i := range retries {
			head(t, r, i, i, 502, true, cancel(i), try(i+1, 1))
		}
		head(t, r, 9, retries, 502, true, win(retries))
		over(t, r)
	}
	p := roomy
	p.Retries = 1
	r := hedged(t, p, 100, 200)
	fail(t, r, 210, 1, attempt.Broken, true)
	head(t, r, 210, 2, 503, true, cancel(2))
	fail(t, r, 220, 0, attempt.Late, true, try(3, 1))
	fail(t, r, 230, 3, attempt.Refused, true, answer(3, 503))
	// What was not allowed once may be so later, if another one runs by then.
	r = hedged(t, p, 100)
	fail(t, r, 110, 0, attempt.Broken, false)
	fail(t, r, 120, 1, attempt.Broken, true, try(2, 1))
}

// 25.2: a status at each end and on both sides of each that is bad: where others run, and where none does.
func TestHead(t *testing.T) {
	for _, status := range []int{200, 201, 299, 404, 500, 501, 502, 503, 504, 505, 599} {
		bad := 502 <= status && status <= 504
		for _, allow := range both {
			for _, safe := range both {
				for retries := range 3 {
					p := roomy
					p.Safe, p.Retries = safe, retries
					r := begin(t, p, 10)
					if bad && allow && safe && retries > 0 {
						head(t, r, 20, 0, status, allow, cancel(0), try(1, 1))
						runs(t, r, 120, 1)
					} else {
						head(t, r, 20, 0, status, allow, win(0))
						over(t, r)
					}
					for id, want := range [][]attempt.Act{
						{cancel(1), cancel(2), win(0)},
						{cancel(0), cancel(2), win(1)},
						{cancel(0), cancel(1), win(2)},
					} {
						r = hedged(t, p, 100, 200)
						if bad {
							head(t, r, 210, id, status, allow, cancel(id))
							runs(t, r, []int{1100, 1000, 1000}[id], slices.DeleteFunc([]int{0, 1, 2}, func(x int) bool { return x == id })...)
						} else {
							head(t, r, 210, id, status, allow, want...)
							over(t, r)
						}
					}
				}
			}
		}
	}
}

// 25.2: others that do not run any more are not let go again.
func TestHeadLetsGoWhoRuns(t *testing.T) {
	p := roomy
	p.Hedges = 3
	r := hedged(t, p, 100, 200, 300)
	fail(t, r, 310, 2, attempt.Broken, true)
	head(t, r, 320, 1, 200, true, cancel(0), cancel(3), win(1))
	over(t, r)
	r = hedged(t, p, 100, 200, 300)
	head(t, r, 310, 0, 504, false, cancel(0))
	fail(t, r, 310, 3, attempt.Busy, false)
	head(t, r, 320, 2, 502, true, cancel(2))
	// It is the only one by now.
	head(t, r, 330, 1, 502, true, cancel(1), try(4, 1))
	head(t, r, 340, 4, 204, false, win(4))
	over(t, r)
}

// 25.3, 25.6: the moment later by Total ends it, a tick ahead of that not.
func TestTotal(t *testing.T) {
	p := attempt.Plan{Retries: 2, Hedges: 3, HedgeAfter: 2, PerTry: 1000, Total: 10, Safe: true}
	for _, allow := range both {
		for _, now := range []int{15, 16, 1000, api.MaxTick} {
			r := begin(t, p, 5)
			runs(t, r, 7, 0)
			pass(t, r, now, allow, cancel(0), answer(-1, 504))
			over(t, r)

			r = begin(t, p, 5)
			pass(t, r, 7, true, try(1, 2))
			pass(t, r, 9, true, try(2, 2))
			fail(t, r, 9, 1, attempt.Broken, true)
			pass(t, r, 11, true, try(3, 2))
			runs(t, r, 15, 0, 2, 3)
			pass(t, r, 14, allow)
			runs(t, r, 15, 0, 2, 3)
			pass(t, r, now, allow, cancel(0), cancel(2), cancel(3), answer(-1, 504))
			over(t, r)
			pass(t, r, now, allow)
		}
	}
	// It comes ahead of what is late, and of a hedge, at the same moment.
	p = attempt.Plan{Retries: 2, Hedges: 3, HedgeAfter: 10, PerTry: 10, Total: 10, Safe: true}
	r := begin(t, p, 0)
	runs(t, r, 10, 0)
	pass(t, r, 9, true)
	pass(t, r, 10, true, cancel(0), answer(-1, 504))
	over(t, r)
	// A retry does not move it.
	p = attempt.Plan{Retries: 2, HedgeAfter: 1, PerTry: 8, Total: 10, Safe: true}
	r = begin(t, p, 0)
	fail(t, r, 5, 0, attempt.Broken, true, try(1, 1))
	runs(t, r, 10, 1)
	pass(t, r, 10, true, cancel(1), answer(-1, 504))
	over(t, r)
}

// 25.3: an attempt that runs for PerTry is late, a tick ahead of that not.
func TestPerTry(t *testing.T) {
	p := attempt.Plan{Retries: 1, HedgeAfter: 1, PerTry: 4, Total: 100, Safe: true}
	for _, now := range []int{7, 8, 60} {
		for _, safe := range both {
			p.Safe = safe
			r := begin(t, p, 3)
			runs(t, r, 7, 0)
			pass(t, r, 6, true)
			runs(t, r, 7, 0)
			if !safe {
				pass(t, r, now, true, cancel(0), answer(0, 504))
				over(t, r)
				continue
			}
			pass(t, r, now, true, cancel(0), try(1, 1))
			runs(t, r, now+4, 1)
			pass(t, r, now+3, true)
			pass(t, r, now+4, true, cancel(1), answer(1, 504))
			over(t, r)
		}
	}
	p.Safe = true
	r := begin(t, p, 3)
	pass(t, r, 7, false, cancel(0), answer(0, 504))
	over(t, r)
	p.Retries = 0
	r = begin(t, p, 3)
	pass(t, r, 7, true, cancel(0), answer(0, 504))
	over(t, r)
}

// 25.3: several that are late at one moment fail one behind the other, so that the last of them alone is made again, or answered.
func TestSeveralLate(t *testing.T) {
	p := attempt.Plan{Retries: 1, Hedges: 3, HedgeAfter: 2, PerTry: 20, Total: 1000, Safe: true}
	for _, x := range []struct {
		name   string
		now    int
		allow  bool
		safe   bool
		want   []attempt.Act
		next   int
		remain []int
	}{
		{"none", 19, true, true, nil, 20, []int{0, 1, 2, 3}},
		{"the first", 20, true, true, []attempt.Act{cancel(0)}, 22, []int{1, 2, 3}},
		{"still", 21, true, true, []attempt.Act{cancel(0)}, 22, []int{1, 2, 3}},
		{"two", 22, true, true, []attempt.Act{cancel(0), cancel(1)}, 24, []int{2, 3}},
		{"three", 25, false, true, []attempt.Act{cancel(0), cancel(1), cancel(2)}, 26, []int{3}},
		{"all", 26, true, true, []attempt.Act{cancel(0), cancel(1), cancel(2), cancel(3), try(4, 1)}, 46, []int{4}},
		{"all, late", 999, true, true, []attempt.Act{cancel(0), cancel(1), cancel(2), cancel(3), try(4, 1)}, 1000, []int{4}},
		{"not allowed", 26, false, true, []attempt.Act{cancel(0), cancel(1), cancel(2), cancel(3), answer(3, 504)}, 0, nil},
		{"not safe", 26, true, false, []attempt.Act{cancel(0), cancel(1), cancel(2), cancel(3), answer(3, 504)}, 0, nil},
	} {
		p.Safe = x.safe
		r := hedged(t, p, 2, 4, 6)
		pass(t, r, x.now, x.allow, x.want...)
		if len(x.remain) == 0 {
			over(t, r)
		} else {
			runs(t, r, x.next, x.remain...)
		}
		if t.Failed() {
			t.Fatal(x.name)
		}
	}
	// Those that ended by themselves are not late.
	p.Safe = true
	r := hedged(t, p, 2, 4, 6)
	fail(t, r, 7, 1, attempt.Broken, true)
	fail(t, r, 7, 3, attempt.Broken, true)
	pass(t, r, 26, true, cancel(0), cancel(2), try(4, 1))
	runs(t, r, 46, 4)
}

// 25.3: a hedge is made at the moment later by HedgeAfter than the last attempt's beginning, of whatever kind that is, and as often as Hedges.
func TestHedges(t *testing.T) {
	for hedges := range 4 {
		p := attempt.Plan{Retries: 1, Hedges: hedges, HedgeAfter: 5, PerTry: 900, Total: 1000, Safe: true}
		for _, late := range []int{0, 1, 30} {
			r := begin(t, p, 10)
			last := 10
			var ids []int
			for i := range hedges {
				ids = append(ids, i)
				runs(t, r, last+5, ids...)
				pass(t, r, last+4, true)
				last += 5 + late
				pass(t, r, last, true, try(i+1, 2))
				pass(t, r, last, true)
			}
			ids = append(ids, hedges)
			runs(t, r, 910, ids...)
			pass(t, r, 909, true)
			runs(t, r, 910, ids...)
		}
	}
	p := attempt.Plan{Retries: 2, Hedges: 2, HedgeAfter: 5, PerTry: 900, Total: 1000, Safe: true}
	r := begin(t, p, 10)
	fail(t, r, 14, 0, attempt.Broken, true, try(1, 1))
	runs(t, r, 19, 1)
	pass(t, r, 18, true)
	pass(t, r, 19, true, try(2, 2))
	// The last attempt counts, be it that it runs no longer.
	fail(t, r, 20, 2, attempt.Broken, true)
	runs(t, r, 24, 1)
	pass(t, r, 23, true)
	pass(t, r, 24, true, try(3, 2))
	runs(t, r, 914, 1, 3)
}

// 25.3: where no hedge is allowed at its moment none is made from then on; a Time ahead of that moment is not asked for one.
func TestHedgeNotAllowed(t *testing.T) {
	p := attempt.Plan{Retries: 3, Hedges: 3, HedgeAfter: 5, PerTry: 400, Total: 1000, Safe: true}
	r := begin(t, p, 10)
	pass(t, r, 14, false)
	runs(t, r, 15, 0)
	pass(t, r, 15, true, try(1, 2))
	pass(t, r, 19, false)
	runs(t, r, 20, 0, 1)
	pass(t, r, 20, false)
	runs(t, r, 410, 0, 1)
	pass(t, r, 21, true)
	pass(t, r, 409, true)
	// Retries are made still, and none of them is hedged.
	fail(t, r, 300, 0, attempt.Broken, true)
	fail(t, r, 300, 1, attempt.Broken, true, try(2, 1))
	runs(t, r, 700, 2)
	pass(t, r, 699, true)
	pass(t, r, 700, true, cancel(2), try(3, 1))
	runs(t, r, 1010, 3)
	// Neither Fail's nor Head's allow ends hedges.
	r = hedged(t, p, 5)
	fail(t, r, 6, 0, attempt.Broken, false)
	runs(t, r, 10, 1)
	r = hedged(t, p, 5)
	head(t, r, 6, 0, 503, false, cancel(0))
	runs(t, r, 10, 1)
	pass(t, r, 10, true, try(2, 2))
}

// 25.3: one Time may let late ones go and make a hedge; a retry that it made is the last attempt, and is not hedged by it.
func TestLateAndHedge(t *testing.T) {
	p := attempt.Plan{Retries: 3, Hedges: 3, HedgeAfter: 5, PerTry: 8, Total: 1000, Safe: true}
	r := hedged(t, p, 5)
	pass(t, r, 9, true, cancel(0))
	runs(t, r, 10, 1)
	pass(t, r, 10, true, try(2, 2))
	runs(t, r, 13, 1, 2)
	r = hedged(t, p, 5)
	pass(t, r, 10, true, cancel(0), try(2, 2))
	runs(t, r, 13, 1, 2)
	r = hedged(t, p, 5)
	pass(t, r, 10, false, cancel(0))
	runs(t, r, 13, 1)
	r = hedged(t, p, 5)
	pass(t, r, 13, true, cancel(0), cancel(1), try(2, 1))
	runs(t, r, 18, 2)
	pass(t, r, 18, true, try(3, 2))
	// It is the late ones' end that asks first: where it is over by that, none is made.
	r = hedged(t, p, 5)
	pass(t, r, 13, false, cancel(0), cancel(1), answer(1, 504))
	over(t, r)
}

// 25.1, 25.3, 25.4: moments stop at the greatest one; at it all is later by whatever span.
func TestGreatestMoment(t *testing.T) {
	p := attempt.Plan{Retries: 1, Hedges: 1, HedgeAfter: 1000000, PerTry: 1000000, Total: 1000000, Safe: true}
	r := begin(t, p, api.MaxTick)
	runs(t, r, api.MaxTick, 0)
	pass(t, r, api.MaxTick-1, true)
	pass(t, r, api.MaxTick, true, cancel(0), answer(-1, 504))
	over(t, r)
	r = begin(t, p, api.MaxTick-2)
	runs(t, r, api.MaxTick, 0)
	fail(t, r, api.MaxTick-1, 0, attempt.Refused, true, try(1, 1))
	runs(t, r, api.MaxTick, 1)
	pass(t, r, api.MaxTick-1, true)
	pass(t, r, api.MaxTick, false, cancel(1), answer(-1, 504))
	over(t, r)
	p.HedgeAfter = 1
	r = begin(t, p, api.MaxTick-2)
	runs(t, r, api.MaxTick-1, 0)
	pass(t, r, api.MaxTick-1, true, try(1, 2))
	runs(t, r, api.MaxTick, 0, 1)
}

// Each moment is taken as it is told, an earlier one too.
func TestMomentsGoBack(t *testing.T) {
	p := attempt.Plan{Retries: 2, Hedges: 2, HedgeAfter: 5, PerTry: 20, Total: 100, Safe: true}
	r := begin(t, p, 50)
	pass(t, r, 0, true)
	pass(t, r, 55, true, try(1, 2))
	pass(t, r, 54, true)
	fail(t, r, 20, 0, attempt.Broken, true)
	fail(t, r, 20, 1, attempt.Broken, true, try(2, 1))
	runs(t, r, 25, 2)
	pass(t, r, 24, true)
	pass(t, r, 25, true, try(3, 2))
	pass(t, r, 40, true, cancel(2))
	runs(t, r, 45, 3)
	runs(t, r, 45, 3)
	pass(t, r, 150, true, cancel(3), answer(-1, 504))
	over(t, r)
}

// wrong makes calls that must not go well, of a request of which so many attempts were made and some run.
func wrong(t *testing.T, r *attempt.Request, made int, running ...int) {
	t.Helper()
	far := []int{-1, -2, made, made + 1, math.MinInt, math.MaxInt}
	for id := range made {
		if !slices.Contains(running, id) {
			far = append(far, id)
		}
	}
	for _, now := range noMoments {
		for _, allow := range both {
			if l, e := r.Time(now, allow); len(l) != 0 || e != api.ErrArg {
				t.Errorf("Time(%d, %v): %v, %v", now, allow, l, e)
			}
		}
		for _, id := range append(slices.Clone(running), far...) {
			noFail(t, r, now, id, attempt.Broken, api.ErrArg)
			noFail(t, r, now, id, attempt.Bad, api.ErrArg)
			noHead(t, r, now, id, 200, api.ErrArg)
			noHead(t, r, now, id, 600, api.ErrArg)
		}
	}
	for _, now := range []int{0, 1, 700, api.MaxTick} {
		for _, why := range noReasons {
			for _, id := range append(slices.Clone(running), far...) {
				noFail(t, r, now, id, why, api.ErrArg)
			}
		}
		for _, id := range far {
			for _, why := range reasons {
				noFail(t, r, now, id, why, api.ErrNone)
			}
			// Who does not run is told ahead of a status that is none.
			for _, status := range append([]int{200, 502, 599}, noStatuses...) {
				noHead(t, r, now, id, status, api.ErrNone)
			}
		}
		for _, status := range noStatuses {
			for _, id := range running {
				noHead(t, r, now, id, status, api.ErrArg)
			}
		}
	}
}

// 25.1, R4: each error in each call, and which comes first; none of them changes anything.
func TestWrong(t *testing.T) {
	p := attempt.Plan{Retries: 2, Hedges: 2, HedgeAfter: 5, PerTry: 20, Total: 100, Safe: true}
	r := begin(t, p, 0)
	wrong(t, r, 1, 0)
	runs(t, r, 5, 0)
	pass(t, r, 5, true, try(1, 2))
	wrong(t, r, 2, 0, 1)
	runs(t, r, 10, 0, 1)
	fail(t, r, 6, 0, attempt.Broken, true)
	wrong(t, r, 2, 1)
	runs(t, r, 10, 1)
	head(t, r, 7, 1, 503, true, cancel(1), try(2, 1))
	wrong(t, r, 3, 2)
	runs(t, r, 12, 2)
	pass(t, r, 12, false)
	wrong(t, r, 3, 2)
	runs(t, r, 27, 2)
	head(t, r, 13, 2, 200, true, win(2))
	wrong(t, r, 3)
	over(t, r)
}

// 25.5: behind each kind of answer nothing is made or answered any more.
func TestBehindAnswer(t *testing.T) {
	p := attempt.Plan{Retries: 5, Hedges: 3, HedgeAfter: 5, PerTry: 20, Total: 100, Safe: true}
	for name, end := range map[string]func(r *attempt.Request){
		"win":    func(r *attempt.Request) { head(t, r, 6, 0, 200, true, cancel(1), win(0)) },
		"bad":    func(r *attempt.Request) { r.Fail(6, 0, 2, true); head(t, r, 6, 1, 502, false, win(1)) },
		"failed": func(r *attempt.Request) { r.Fail(6, 0, 2, true); fail(t, r, 6, 1, 2, false, answer(1, 502)) },
		"late": func(r *attempt.Request) {
			pass(t, r, 25, false, cancel(0), cancel(1), answer(1, 504))
		},
		"total": func(r *attempt.Request) {
			pass(t, r, 100, true, cancel(0), cancel(1), answer(-1, 504))
		},
	} {
		r := hedged(t, p, 5)
		end(r)
		for range 2 {
			over(t, r)
			wrong(t, r, 2)
			for _, now := range []int{0, 6, 10, 25, 99, 100, 101, api.MaxTick} {
				pass(t, r, now, true)
				pass(t, r, now, false)
			}
		}
		if t.Failed() {
			t.Fatal(name)
		}
	}
}

// R6, P1: a nil request, and one that Begin did not make, are over.
func TestNoRequest(t *testing.T) {
	for _, r := range []*attempt.Request{nil, {}} {
		over(t, r)
		wrong(t, r, 0)
		for _, now := range []int{0, 1, api.MaxTick} {
			pass(t, r, now, true)
			pass(t, r, now, false)
		}
		over(t, r)
	}
}

// R3: who writes to what was told, spare room too, changes neither the request nor another answer.
func TestAnswersShareNothing(t *testing.T) {
	scribble := func(l []attempt.Act) {
		for i := range l[:cap(l)] {
			l[:cap(l)][i] = attempt.Act{Kind: -7, ID: -7, N: -7}
		}
	}
	p := attempt.Plan{Retries: 2, Hedges: 3, HedgeAfter: 5, PerTry: 20, Total: 100, Safe: true}
	r, begun, _ := attempt.Begin(p, 0)
	scribble(begun)
	for i := range 3 {
		l, _ := r.Time(5*(i+1), true)
		ids := r.Running()
		if !slices.Equal(l, []attempt.Act{try(i+1, 2)}) {
			t.Errorf("%v", l)
		}
		scribble(l)
		for i := range ids[:cap(ids)] {
			ids[:cap(ids)][i] = -7
		}
	}
	runs(t, r, 20, 0, 1, 2, 3)
	late, _ := r.Time(25, true)
	let, _ := r.Head(26, 2, 503, true)
	again, _ := r.Head(26, 3, 503, true)
	scribble(late)
	if !slices.Equal(let, []attempt.Act{cancel(2)}) || !slices.Equal(again, []attempt.Act{cancel(3), try(4, 1)}) {
		t.Errorf("%v, %v", let, again)
	}
	scribble(let)
	scribble(again)
	runs(t, r, 46, 4)
	failed, _ := r.Fail(27, 4, attempt.Busy, true)
	scribble(failed)
	runs(t, r, 47, 5)
	fail(t, r, 28, 5, attempt.Busy, true, answer(5, 503))
}

// Requests do not hang together, nor do their plans.
func TestApart(t *testing.T) {
	p := attempt.Plan{Retries: 1, Hedges: 1, HedgeAfter: 5, PerTry: 20, Total: 100, Safe: true}
	a := begin(t, p, 0)
	b := begin(t, p, 1)
	pass(t, a, 5, false)
	p = attempt.Plan{}
	runs(t, a, 20, 0)
	runs(t, b, 6, 0)
	head(t, a, 6, 0, 200, true, win(0))
	pass(t, b, 6, true, try(1, 2))
	over(t, a)
	runs(t, b, 21, 0, 1)
}
