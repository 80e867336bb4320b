package hosts_test

import (
	"math"
	"slices"
	"testing"

	"headrace/api"
	"headrace/hosts"
)

// noMoments lie outside on both sides, as near and as far as they may.
var noMoments = []int{-1, math.MinInt, api.MaxTick + 1, math.MaxInt}

func newHosts(t *testing.T, n, fails, base, longest, share int) *hosts.Hosts {
	t.Helper()
	h, e := hosts.New(n, fails, base, longest, share)
	if h == nil || e != api.OK {
		t.Fatalf("New(%d, %d, %d, %d, %d): %v, %v", n, fails, base, longest, share, h, e)
	}
	return h
}

func bring(t *testing.T, h *hosts.Hosts, now int, want ...int) {
	t.Helper()
	if l, e := h.Bring(now); !slices.Equal(l, want) || e != api.OK {
		t.Errorf("Bring(%d): %v, %v; want %v", now, l, e, want)
	}
}

func result(t *testing.T, h *hosts.Hosts, now, host int, ok bool, want ...bool) {
	t.Helper()
	for i, x := range want {
		if out, e := h.Result(now, host, ok); out != x || e != api.OK {
			t.Errorf("Result(%d, %d, %v), number %d: %v, %v; want %v", now, host, ok, i, out, e, x)
		}
	}
}

// good is an end that ejects nobody, as it never does.
func good(t *testing.T, h *hosts.Hosts, now, host int) {
	t.Helper()
	result(t, h, now, host, true, false)
}

func bad(t *testing.T, h *hosts.Hosts, now, host int, want ...bool) {
	t.Helper()
	result(t, h, now, host, false, want...)
}

// stays is so many bad ends by which the host is not ejected.
func stays(t *testing.T, h *hosts.Hosts, now, host, times int) {
	t.Helper()
	bad(t, h, now, host, slices.Repeat([]bool{false}, times)...)
}

func mark(t *testing.T, h *hosts.Hosts, now, host int, healthy, want bool) {
	t.Helper()
	if x, e := h.Mark(now, host, healthy); x != want || e != api.OK {
		t.Errorf("Mark(%d, %d, %v): %v, %v; want %v", now, host, healthy, x, e, want)
	}
}

func usable(t *testing.T, h *hosts.Hosts, now int, want ...int) {
	t.Helper()
	if l, e := h.Usable(now); !slices.Equal(l, want) || e != api.OK {
		t.Errorf("Usable(%d): %v, %v; want %v", now, l, e, want)
	}
}

func until(t *testing.T, h *hosts.Hosts, host, want int) {
	t.Helper()
	if at, ok := h.Until(host); at != want || !ok {
		t.Errorf("Until(%d): %d, %v; want %d, true", host, at, ok, want)
	}
}

func within(t *testing.T, h *hosts.Hosts, list ...int) {
	t.Helper()
	for _, host := range list {
		if at, ok := h.Until(host); at != 0 || ok {
			t.Errorf("Until(%d): %d, %v; want 0, false", host, at, ok)
		}
	}
}

func ejected(t *testing.T, h *hosts.Hosts, want int) {
	t.Helper()
	if n := h.Ejected(); n != want {
		t.Errorf("Ejected: %d; want %d", n, want)
	}
}

// numbered are the numbers from 0 on, so many.
func numbered(n int) []int {
	var l []int
	for i := range n {
		l = append(l, i)
	}
	return l
}

// The chapter's example.
func TestExample(t *testing.T) {
	h := newHosts(t, 2, 2, 10, 30, 50)
	bad(t, h, 0, 0, false, true)
	usable(t, h, 9, 1)
	bring(t, h, 10, 0)
}

// 18.1, R4: each argument at the edges of its range, one below and one above; one that is wrong is enough.
func TestNew(t *testing.T) {
	if api.MaxHosts != 16 {
		t.Fatalf("MaxHosts: %d", api.MaxHosts)
	}
	far := []int{-1, math.MinInt, math.MaxInt}
	for _, n := range append(far, 0, 1, 2, 15, 16, 17) {
		for _, fails := range append(far, 0, 1, 999, 1000, 1001) {
			for _, base := range append(far, 0, 1, 2, 999999, 1000000, 1000001) {
				for _, longest := range append(far, 0, 1, 2, 3, 999998, 999999, 1000000, 1000001) {
					for _, share := range append(far, 0, 1, 99, 100, 101) {
						right := n >= 1 && n <= 16 && fails >= 0 && fails <= 1000 && base >= 1 && base <= 1000000 && longest >= base && longest <= 1000000 && share >= 0 && share <= 100
						if h, e := hosts.New(n, fails, base, longest, share); right && e == api.OK {
							isNew(t, h, n)
						} else if right || h != nil || e != api.ErrArg {
							t.Errorf("New(%d, %d, %d, %d, %d): %v, %v", n, fails, base, longest, share, h, e)
						}
					}
				}
			}
		}
	}
}

// isNew looks at a set in which all hosts are healthy and none is ejected.
func isNew(t *testing.T, h *hosts.Hosts, n int) {
	t.Helper()
	bring(t, h, 0)
	usable(t, h, 0, numbered(n)...)
	ejected(t, h, 0)
	within(t, h, numbered(n)...)
	mark(t, h, 0, n-1, true, false)
	if _, e := h.Result(0, n, true); e != api.ErrNone {
		t.Errorf("%d hosts and one more: %v", n, e)
	}
}

// 18.2: as many failures in a row as fails eject it; a good end begins the row anew.
func TestInARow(t *testing.T) {
	for _, fails := range []int{1, 2, 3, 999, 1000} {
		h := newHosts(t, 2, fails, 10, 10, 100)
		for range 3 {
			stays(t, h, 5, 1, fails-1)
			good(t, h, 5, 1)
		}
		good(t, h, 5, 1)
		stays(t, h, 5, 1, fails-1)
		ejected(t, h, 0)
		within(t, h, 0, 1)
		usable(t, h, 6, 0, 1)
		bad(t, h, 7, 1, true)
		until(t, h, 1, 17)
		within(t, h, 0)
		ejected(t, h, 1)
		usable(t, h, 7, 0)
	}
}

// 18.2: failures are each host's own.
func TestRowsApart(t *testing.T) {
	h := newHosts(t, 3, 2, 10, 10, 100)
	stays(t, h, 0, 0, 1)
	stays(t, h, 0, 1, 1)
	stays(t, h, 0, 2, 1)
	good(t, h, 0, 1)
	bad(t, h, 0, 2, true)
	bad(t, h, 0, 1, false)
	bad(t, h, 0, 0, true)
	usable(t, h, 0, 1)
	bad(t, h, 0, 1, true)
	usable(t, h, 0)
	ejected(t, h, 3)
	bring(t, h, 10, 0, 1, 2)
}

// 18.2: with fails 0 none is ever ejected.
func TestNoFails(t *testing.T) {
	h := newHosts(t, 1, 0, 1, 1, 100)
	good(t, h, 0, 0)
	for now := range 2500 {
		stays(t, h, now, 0, 1)
	}
	ejected(t, h, 0)
	usable(t, h, api.MaxTick, 0)
}

// 18.2, 18.4: so many are ejected as the share lets, rounded down, and not one more.
func TestShare(t *testing.T) {
	for _, x := range []struct{ n, share, most int }{
		{1, 0, 0}, {1, 1, 0}, {1, 99, 0}, {1, 100, 1},
		{2, 0, 0}, {2, 49, 0}, {2, 50, 1}, {2, 51, 1}, {2, 99, 1}, {2, 100, 2},
		{3, 33, 0}, {3, 34, 1}, {3, 50, 1}, {3, 66, 1}, {3, 67, 2}, {3, 99, 2}, {3, 100, 3},
		{7, 14, 0}, {7, 15, 1}, {7, 28, 1}, {7, 29, 2}, {7, 85, 5}, {7, 86, 6},
		{10, 9, 0}, {10, 10, 1}, {10, 19, 1}, {10, 20, 2}, {15, 99, 14},
		{16, 0, 0}, {16, 6, 0}, {16, 7, 1}, {16, 25, 4}, {16, 50, 8}, {16, 99, 15}, {16, 100, 16},
	} {
		h := newHosts(t, x.n, 1, 10, 10, x.share)
		for host := range x.n {
			bad(t, h, 0, host, host < x.most)
			ejected(t, h, min(host+1, x.most))
		}
		bring(t, h, 9)
		usable(t, h, 9, numbered(x.n)[x.most:]...)
		bring(t, h, 10, numbered(x.most)...)
		if t.Failed() {
			t.Fatalf("at %+v", x)
		}
	}
}

// 18.2: one that would be too many keeps its failures, and is ejected by the next one when there is room; one that is restored makes room in the same call.
func TestOneTooMany(t *testing.T) {
	h := newHosts(t, 2, 2, 10, 10, 50)
	bad(t, h, 0, 0, false, true)
	stays(t, h, 3, 1, 2)
	stays(t, h, 9, 1, 3)
	ejected(t, h, 1)
	bad(t, h, 10, 1, true)
	until(t, h, 1, 20)
	within(t, h, 0)
	usable(t, h, 10, 0)
	// A good end takes them away, though they were more than fails.
	stays(t, h, 11, 0, 5)
	good(t, h, 12, 0)
	stays(t, h, 20, 0, 1)
	bad(t, h, 20, 0, true)
}

// 18.2: each time it is ejected for base longer, longest at most; each host by its own times.
func TestSpans(t *testing.T) {
	for _, x := range []struct {
		base, longest int
		spans         []int
	}{
		{10, 10, []int{10, 10, 10}},
		{10, 15, []int{10, 15, 15}},
		{10, 20, []int{10, 20, 20}},
		{10, 30, []int{10, 20, 30, 30, 30}},
		{10, 31, []int{10, 20, 30, 31, 31}},
		{1, 3, []int{1, 2, 3, 3}},
		{1, 1, []int{1, 1}},
		{1, 1000000, []int{1, 2, 3, 4, 5, 6, 7, 8, 9, 10}},
		{500000, 1000000, []int{500000, 1000000, 1000000}},
		{333333, 1000000, []int{333333, 666666, 999999, 1000000, 1000000}},
		{999999, 1000000, []int{999999, 1000000}},
		{1000000, 1000000, []int{1000000, 1000000}},
	} {
		h := newHosts(t, 2, 1, x.base, x.longest, 100)
		now := 7
		for _, span := range x.spans {
			bad(t, h, now, 1, true)
			until(t, h, 1, now+span)
			now += span
			bring(t, h, now-1)
			until(t, h, 1, now)
			bring(t, h, now, 1)
		}
		// Good ends do not make what follows shorter; the other host has its own times.
		good(t, h, now, 1)
		bad(t, h, now, 0, true)
		until(t, h, 0, now+x.base)
		bad(t, h, now, 1, true)
		until(t, h, 1, now+min(x.base*(len(x.spans)+1), x.longest))
		if t.Failed() {
			t.Fatalf("at %+v", x)
		}
	}
}

// Words, 18.3: it is ejected up to the tick ahead of its end; at the end each call finds it restored.
func TestEnd(t *testing.T) {
	for _, base := range []int{1, 2, 10, 1000000} {
		for _, at := range []int{0, 1, 100, 1 << 61, api.MaxTick - base} {
			end := at + base
			ready := func() *hosts.Hosts {
				h := newHosts(t, 2, 2, base, base, 50)
				bad(t, h, at, 0, false, true)
				for _, now := range []int{at, end - 1} {
					bring(t, h, now)
					usable(t, h, now, 1)
					bad(t, h, now, 0, false)
					good(t, h, now, 0)
					until(t, h, 0, end)
					ejected(t, h, 1)
				}
				return h
			}
			h := ready()
			bring(t, h, end, 0)
			bring(t, h, end)
			within(t, h, 0)
			ejected(t, h, 0)
			usable(t, ready(), end, 0, 1)
			for _, now := range []int{end, api.MaxTick} {
				h = ready()
				mark(t, h, now, 1, false, true)
				within(t, h, 0)
				usable(t, h, now, 0)
				h = ready()
				good(t, h, now, 1)
				ejected(t, h, 0)
				h = ready()
				bring(t, h, now, 0)
			}
			// Until and Ejected bring it nowhere: they tell what is by the last moment.
			h = ready()
			until(t, h, 0, end)
			ejected(t, h, 1)
			bad(t, h, end, 0, false, true)
		}
	}
}

// 18.2: an end that would lie beyond the greatest moment is that one; there it is restored by the next call.
func TestEndAtGreatest(t *testing.T) {
	for _, base := range []int{2, 10, 1000000} {
		h := newHosts(t, 2, 1, base, 1000000, 100)
		bad(t, h, api.MaxTick-1, 0, true)
		until(t, h, 0, api.MaxTick)
		usable(t, h, api.MaxTick-1, 1)
		bad(t, h, api.MaxTick, 1, true)
		within(t, h, 0)
		until(t, h, 1, api.MaxTick)
		ejected(t, h, 1)
		bring(t, h, api.MaxTick, 1)
		bad(t, h, api.MaxTick, 0, true)
		until(t, h, 0, api.MaxTick)
		usable(t, h, api.MaxTick, 0, 1)
		within(t, h, 0, 1)
	}
}

// 18.2: ends of a host that is ejected do nothing: they count neither as failures nor move its end.
func TestResultsOfEjected(t *testing.T) {
	h := newHosts(t, 1, 2, 10, 100, 100)
	bad(t, h, 0, 0, false, true)
	for now := range 10 {
		bad(t, h, now, 0, false, false, false)
		good(t, h, now, 0)
		bad(t, h, now, 0, false)
		until(t, h, 0, 10)
	}
	// Restored it has no failures, and was ejected once.
	bad(t, h, 10, 0, false)
	bad(t, h, 11, 0, true)
	until(t, h, 0, 31)
}

// Words, 18.2: a host that is restored has no failures in a row.
func TestRestoredWithoutFailures(t *testing.T) {
	h := newHosts(t, 2, 3, 10, 10, 50)
	bad(t, h, 0, 0, false, false, true)
	stays(t, h, 0, 1, 2)
	bring(t, h, 10, 0)
	stays(t, h, 10, 0, 2)
	good(t, h, 10, 0)
	stays(t, h, 10, 0, 2)
	// The failures of one that was not ejected stay.
	bad(t, h, 10, 1, true)
	stays(t, h, 10, 0, 4)
	usable(t, h, 20, 0, 1)
	bad(t, h, 20, 0, true)
}

// 18.2: a mark tells whether something changed; it touches neither failures nor an ejection.
func TestMark(t *testing.T) {
	h := newHosts(t, 3, 2, 10, 10, 100)
	mark(t, h, 0, 1, true, false)
	mark(t, h, 0, 1, false, true)
	mark(t, h, 0, 1, false, false)
	usable(t, h, 0, 0, 2)
	mark(t, h, 1, 1, true, true)
	mark(t, h, 1, 1, true, false)
	usable(t, h, 1, 0, 1, 2)
	stays(t, h, 2, 2, 1)
	mark(t, h, 2, 2, false, true)
	mark(t, h, 2, 2, true, true)
	bad(t, h, 2, 2, true)
	mark(t, h, 3, 2, true, false)
	until(t, h, 2, 12)
	usable(t, h, 3, 0, 1)
	mark(t, h, 4, 2, false, true)
	mark(t, h, 4, 2, true, true)
	until(t, h, 2, 12)
	usable(t, h, 11, 0, 1)
	usable(t, h, 12, 0, 1, 2)
}

// Words, 18.3: one may be used that is healthy and not ejected: either alone is not enough.
func TestHealthyAndNotEjected(t *testing.T) {
	h := newHosts(t, 4, 1, 10, 10, 50)
	mark(t, h, 0, 1, false, true)
	mark(t, h, 0, 3, false, true)
	// One that is not healthy is ejected too, and takes its part of the share.
	bad(t, h, 0, 2, true)
	bad(t, h, 0, 3, true)
	bad(t, h, 0, 0, false)
	ejected(t, h, 2)
	within(t, h, 0, 1)
	usable(t, h, 0, 0)
	mark(t, h, 5, 1, true, true)
	usable(t, h, 5, 0, 1)
	bring(t, h, 10, 2, 3)
	usable(t, h, 10, 0, 1, 2)
	mark(t, h, 10, 3, true, true)
	usable(t, h, 10, 0, 1, 2, 3)
	for host := range 4 {
		mark(t, h, 10, host, false, true)
	}
	usable(t, h, 10)
	ejected(t, h, 0)
	// Marked healthy while it is ejected, it may be used from its end on.
	bad(t, h, 11, 1, true)
	mark(t, h, 12, 1, true, true)
	usable(t, h, 12)
	usable(t, h, 30, 1)
}

// 18.1: who is restored is told once, rising, whatever the order in which they were ejected; who is restored by another call is not told.
func TestRestored(t *testing.T) {
	h := newHosts(t, 16, 1, 10, 10, 100)
	for _, host := range []int{15, 3, 0, 9} {
		bad(t, h, 0, host, true)
	}
	bad(t, h, 1, 4, true)
	bring(t, h, 9)
	bring(t, h, 10, 0, 3, 9, 15)
	bring(t, h, 10)
	ejected(t, h, 1)
	bring(t, h, 11, 4)
	for name, ask := range asks() {
		h = newHosts(t, 3, 1, 10, 10, 100)
		bad(t, h, 0, 0, true)
		bad(t, h, 5, 2, true)
		ask(h, 12)
		ejected(t, h, 1)
		if l, e := h.Bring(15); !slices.Equal(l, []int{2}) || e != api.OK {
			t.Errorf("behind %s: %v, %v", name, l, e)
		}
	}
}

// asks are the calls by which a set is brought to a moment, which change nothing else.
func asks() map[string]func(h *hosts.Hosts, now int) {
	return map[string]func(h *hosts.Hosts, now int){
		"Bring":  func(h *hosts.Hosts, now int) { h.Bring(now) },
		"Result": func(h *hosts.Hosts, now int) { h.Result(now, 1, true) },
		"Mark":   func(h *hosts.Hosts, now int) { h.Mark(now, 1, true) },
		"Usable": func(h *hosts.Hosts, now int) { h.Usable(now) },
	}
}

// Words: an earlier moment than the last one is taken as that, in each call, whichever was asked last.
func TestBackwards(t *testing.T) {
	for name, ask := range asks() {
		// It is ejected from the last moment on, not from the earlier one.
		h := newHosts(t, 2, 1, 10, 100, 100)
		ask(h, 100)
		bad(t, h, 50, 0, true)
		until(t, h, 0, 110)
		usable(t, h, 60, 1)
		usable(t, h, 109, 1)
		// Restored it stays, whatever is said then.
		ask(h, 110)
		within(t, h, 0)
		bring(t, h, 0)
		usable(t, h, 109, 0, 1)
		mark(t, h, 0, 0, true, false)
		bad(t, h, 0, 0, true)
		until(t, h, 0, 130)
		ask(h, 129)
		until(t, h, 0, 130)
		usable(t, h, 0, 1)
		if t.Failed() {
			t.Fatalf("asked by %s", name)
		}
	}
}

// noSuch are calls that name a moment and a host, and must not go well.
func noSuch(t *testing.T, h *hosts.Hosts, now, host int, want api.Errno) {
	t.Helper()
	for _, x := range []bool{true, false} {
		if out, e := h.Result(now, host, x); out || e != want {
			t.Errorf("Result(%d, %d, %v): %v, %v; want %v", now, host, x, out, e, want)
		}
		if changed, e := h.Mark(now, host, x); changed || e != want {
			t.Errorf("Mark(%d, %d, %v): %v, %v; want %v", now, host, x, changed, e, want)
		}
	}
}

// 18.1 to 18.3, R4: what is no moment is told first, then that there is no such host; neither changes anything, nor brings the set to a moment.
func TestWrong(t *testing.T) {
	noHosts := []int{-1, math.MinInt, 3, 16, math.MaxInt}
	wrong := func(h *hosts.Hosts) {
		t.Helper()
		for _, now := range noMoments {
			if l, e := h.Bring(now); len(l) != 0 || e != api.ErrArg {
				t.Errorf("Bring(%d): %v, %v", now, l, e)
			}
			if l, e := h.Usable(now); len(l) != 0 || e != api.ErrArg {
				t.Errorf("Usable(%d): %v, %v", now, l, e)
			}
			for _, host := range append(noHosts, 0, 1, 2) {
				noSuch(t, h, now, host, api.ErrArg)
			}
		}
		for _, host := range noHosts {
			for _, now := range []int{0, 5, 10, 1000, api.MaxTick} {
				noSuch(t, h, now, host, api.ErrNone)
			}
			within(t, h, host)
		}
	}
	h := newHosts(t, 3, 2, 10, 20, 100)
	wrong(h)
	bad(t, h, 0, 0, false)
	wrong(h)
	bad(t, h, 0, 0, true)
	wrong(h)
	until(t, h, 0, 10)
	ejected(t, h, 1)
	mark(t, h, 3, 2, false, true)
	stays(t, h, 3, 1, 1)
	wrong(h)
	usable(t, h, 9, 1)
	wrong(h)
	bring(t, h, 10, 0)
	wrong(h)
	bad(t, h, 10, 1, true)
	until(t, h, 1, 20)
	bad(t, h, 10, 0, false, true)
	until(t, h, 0, 30)
	wrong(h)
	usable(t, h, 19)
	mark(t, h, 19, 2, true, true)
	wrong(h)
	usable(t, h, 29, 1, 2)
	for _, now := range noMoments {
		for _, host := range noHosts {
			noSuch(t, nil, now, host, api.ErrArg)
		}
		noSuch(t, nil, now, 0, api.ErrArg)
	}
}

// 18.2: the last host is one, the next is none.
func TestLast(t *testing.T) {
	for _, n := range []int{1, 2, 15, 16} {
		h := newHosts(t, n, 1, 10, 10, 100)
		bad(t, h, 0, n-1, true)
		until(t, h, n-1, 10)
		mark(t, h, 0, n-1, false, true)
		noSuch(t, h, 0, n, api.ErrNone)
		within(t, h, n)
		usable(t, h, 10, numbered(n-1)...)
	}
}

// R3: who writes to what was told, spare room too, changes neither the set nor another answer.
func TestAnswersShareNothing(t *testing.T) {
	h := newHosts(t, 16, 1, 10, 10, 100)
	scribble := func(l []int) {
		for i := range l[:cap(l)] {
			l[:cap(l)][i] = -7
		}
	}
	for now := 0; now < 100; now += 10 {
		for _, host := range []int{1, 4, 5, 11, 12} {
			bad(t, h, now, host, true)
		}
		first, _ := h.Usable(now)
		second, _ := h.Usable(now)
		scribble(first)
		want := []int{0, 2, 3, 6, 7, 8, 9, 10, 13, 14, 15}
		if !slices.Equal(second, want) {
			t.Errorf("another answer became %v", second)
		}
		usable(t, h, now, want...)
		restored, _ := h.Bring(now + 10)
		all, _ := h.Usable(now + 10)
		scribble(restored)
		if !slices.Equal(all, numbered(16)) {
			t.Errorf("another answer became %v", all)
		}
		scribble(all)
		usable(t, h, now+10, numbered(16)...)
		ejected(t, h, 0)
	}
}

// Sets do not hang together.
func TestApart(t *testing.T) {
	a, b := newHosts(t, 2, 1, 10, 10, 50), newHosts(t, 2, 1, 10, 10, 50)
	bad(t, a, 50, 0, true)
	mark(t, a, 50, 1, false, true)
	usable(t, b, 0, 0, 1)
	bad(t, b, 3, 1, true)
	until(t, b, 1, 13)
	until(t, a, 0, 60)
	usable(t, a, 50)
	usable(t, b, 3, 0)
}

// P1, R6: a nil set, and one that New did not make, have no hosts.
func TestNoSet(t *testing.T) {
	for _, h := range []*hosts.Hosts{nil, {}} {
		for _, now := range []int{0, 1, 7, api.MaxTick, 3} {
			bring(t, h, now)
			usable(t, h, now)
			ejected(t, h, 0)
			for _, host := range []int{0, 1, -1, 15, 16, math.MaxInt, math.MinInt} {
				noSuch(t, h, now, host, api.ErrNone)
				within(t, h, host)
			}
		}
		for _, now := range noMoments {
			if l, e := h.Bring(now); len(l) != 0 || e != api.ErrArg {
				t.Errorf("Bring(%d): %v, %v", now, l, e)
			}
			if l, e := h.Usable(now); len(l) != 0 || e != api.ErrArg {
				t.Errorf("Usable(%d): %v, %v", now, l, e)
			}
			noSuch(t, h, now, 0, api.ErrArg)
		}
	}
}
