package trace_test

import (
	"math"
	"slices"
	"testing"

	"headrace/api"
)

// kinds are all kinds of acts.
var kinds = []int{api.AcOpen, api.AcWrite, api.AcClose, api.AcParsed, api.AcAdmit, api.AcTry, api.AcAnswer, api.AcDone, api.AcEject, api.AcRestore, api.AcDown, api.AcHealthy, api.AcBreak, api.AcMend}

// Rule 1: an act's moment is now, but in an EvTick's own step, where it is from what now was to what it is.
func TestMoments(t *testing.T) {
	c := plain()
	breaks(t, c, 1, opens(1, at(-1, put(1))...))
	breaks(t, c, 1, opens(1, at(1, put(1))...))
	keeps(t, c, opens(1, at(0, put(1))...), ticks(5, row(at(0, put(1)), at(2, put(1), put(1)), at(5, put(1)))...), comes(at(5, put(1), put(1))...), ticks(0, at(5, put(1))...), comes(at(5, put(1))...))
	for _, x := range []struct {
		rule int
		l    []api.Act
	}{
		{1, at(9, put(1))}, {0, at(10, put(1))}, {0, at(11, put(1))}, {0, at(15, put(1))}, {1, at(16, put(1))},
		{1, row(at(12, put(1)), at(11, put(1)))}, {0, row(at(12, put(1)), at(12, put(1)))}, {0, row(at(12, put(1)), at(13, put(1)))},
		{1, row(at(15, put(1)), at(16, put(1)))}, {1, at(math.MaxInt, put(1))}, {1, at(math.MinInt, put(1))},
	} {
		check(t, c, x.rule, 2*min(x.rule, 1), opens(1), ticks(10), ticks(5, x.l...))
	}
	for now, rule := range map[int]int{0: 1, 10: 1, 12: 1, 14: 1, 15: 0, 16: 1, 20: 1} {
		check(t, c, rule, 3*rule, opens(1), ticks(10), ticks(5, at(12, put(1))...), comes(at(now, put(1))...))
		check(t, c, rule, 4*rule, opens(1), ticks(10), ticks(5), comes(), comes(at(now, put(1))...))
	}
	// The moment stays where no span is told, and stops at the greatest one; no other event's N moves it.
	for _, n := range []int{-1, -10, math.MinInt, 0} {
		keeps(t, c, opens(1), ticks(10), ticks(n, at(10, put(1))...), comes(at(10, put(1))...))
		breaks(t, c, 1, opens(1), ticks(10), ticks(n, at(9, put(1))...))
		breaks(t, c, 1, opens(1), ticks(10), ticks(n, at(11, put(1))...))
		breaks(t, c, 1, opens(1), ticks(10), ticks(n), comes(at(11, put(1))...))
	}
	for _, n := range []int{api.MaxTick, api.MaxTick + 1, math.MaxInt} {
		keeps(t, c, opens(1), ticks(10), ticks(n, row(at(10, put(1)), at(api.MaxTick, put(1)))...), comes(at(api.MaxTick, put(1))...), ticks(n, at(api.MaxTick, put(1))...))
		breaks(t, c, 1, opens(1), ticks(10), ticks(n, at(api.MaxTick+1, put(1))...))
		breaks(t, c, 1, opens(1), ticks(10), ticks(n), comes(at(api.MaxTick-1, put(1))...))
	}
	for kind := -1; kind < 12; kind++ {
		if kind != api.EvTick {
			breaks(t, c, 1, opens(1), api.Step{E: api.Event{Kind: kind, Conn: 7, N: 5}, Acts: at(5, put(1))})
			keeps(t, c, opens(1), api.Step{E: api.Event{Kind: kind, Conn: 7, N: 5}, Acts: at(0, put(1))}, comes(put(1)))
		}
	}
	// It is the least rule, of acts of all kinds.
	for _, kind := range append([]int{0, -1, 15}, kinds...) {
		breaks(t, c, 1, comes(api.Act{Kind: kind, Conn: -1, Host: -1, Req: -7, N: -7, Status: -7, At: 1}))
	}
}

// Rule 2: a kind that is none.
func TestKinds(t *testing.T) {
	for _, kind := range []int{0, -1, 15, math.MinInt, math.MaxInt} {
		breaks(t, plain(), 2, opens(1), comes(put(1), api.Act{Kind: kind, Conn: 1, Bytes: []byte("x")}))
	}
}

// Rule 2, AcOpen: the number is Base and how many were asked for ahead, those that are gone too; the host is one.
func TestOpenNumbers(t *testing.T) {
	c := plain()
	for _, n := range []int{-1, 1, -base, 2, base} {
		breaks(t, c, 2, comes(ask(n, 0)))
	}
	for _, n := range []int{-1, 0, 2, 3} {
		breaks(t, c, 2, comes(ask(0, 0), ask(n, 1)))
		breaks(t, c, 2, comes(ask(0, 0), shut(base)), comes(ask(n, 1)))
	}
	keeps(t, c, comes(ask(0, 0), shut(base), ask(1, 1)), event(api.EvRefused, base+1), comes(ask(2, 0), ask(3, 2)))
	for _, host := range []int{-1, 3, math.MinInt, math.MaxInt} {
		breaks(t, c, 2, comes(ask(0, host)))
		breaks(t, c, 2, comes(ask(0, 0), ask(1, host)))
	}
}

// Rule 2, AcWrite: the connection is there, and a host's is up; there are bytes.
func TestWrites(t *testing.T) {
	c := plain()
	for _, conn := range []int{1, 0, -1, base - 1, base, base + 1, math.MinInt, math.MaxInt} {
		breaks(t, c, 2, comes(put(conn)))
		breaks(t, c, 2, event(api.EvUp, conn, put(conn)))
	}
	none := put(1)
	none.Bytes = nil
	breaks(t, c, 2, opens(1), comes(none))
	none.Bytes = make([]byte, 0, 9)
	breaks(t, c, 2, opens(1), comes(none))
	keeps(t, c, opens(1, put(1)), comes(put(1)))

	asked := comes(ask(0, 0))
	breaks(t, c, 2, comes(ask(0, 0), put(base)))
	breaks(t, c, 2, asked, event(api.EvUp, base+1), comes(put(base)))
	breaks(t, c, 2, event(api.EvUp, base), asked, comes(put(base)))
	up := event(api.EvUp, base)
	keeps(t, c, asked, event(api.EvUp, base, put(base)), comes(put(base)), event(api.EvEnd, base, put(base)))
	none.Conn = base
	breaks(t, c, 2, asked, up, comes(none))
	breaks(t, c, 2, asked, up, comes(put(base), put(base+1)))
	// A new one is not up because another one was.
	breaks(t, c, 2, asked, up, comes(ask(1, 0), put(base+1)))
}

// gone are the ways in which a connection is there no longer.
func gone(conn int) []api.Step {
	return []api.Step{comes(shut(conn)), event(api.EvReset, conn)}
}

// Rule 2: a client is there from the first EvOpen of its number to an AcClose or an EvReset of it.
func TestClientsThere(t *testing.T) {
	c := plain()
	for _, conn := range []int{0, 1, base - 1} {
		for _, a := range []api.Act{parsed(conn, 0, 0), own(conn, -1, 400), put(conn), shut(conn)} {
			keeps(t, c, opens(conn, a))
			keeps(t, c, opens(conn), opens(conn, a))
			keeps(t, c, opens(conn), event(api.EvEnd, conn, a))
			keeps(t, c, opens(conn), event(api.EvRefused, conn, a))
			keeps(t, c, opens(conn), event(api.EvUp, conn), event(api.EvReset, conn+1), comes(a))
			for _, end := range gone(conn) {
				breaks(t, c, 2, opens(conn), end, comes(a))
				breaks(t, c, 2, opens(conn), end, opens(conn, a))
				breaks(t, c, 2, opens(conn), opens(conn), end, opens(conn), comes(a))
			}
			breaks(t, c, 2, opens(conn), comes(shut(conn), a))
			breaks(t, c, 2, opens(conn), event(api.EvReset, conn, a))
		}
	}
	for _, conn := range []int{-1, base, base + 1, math.MinInt, math.MaxInt} {
		for _, a := range []api.Act{parsed(conn, 0, 0), admit(conn, 0, 0), own(conn, -1, 400), done(conn, 0), put(conn), shut(conn)} {
			breaks(t, c, 2, opens(conn, a))
			breaks(t, c, 2, comes(a))
		}
	}
	// A host's connection is no client.
	for _, a := range []api.Act{parsed(base, 0, 0), admit(base, 0, 0), own(base, -1, 400), done(base, 0)} {
		breaks(t, c, 2, opens(base), comes(ask(0, 0)), event(api.EvUp, base, a))
	}
	// Nor does one stay who has an open request.
	for _, a := range []api.Act{admit(1, 0, 0), own(1, 0, 404), done(1, 0), parsed(1, 1, 0)} {
		for _, end := range gone(1) {
			breaks(t, c, 2, opens(1), comes(parsed(1, 0, 0)), end, comes(a))
		}
	}
	// A kind that is of no event opens nobody.
	breaks(t, c, 2, event(0, 1, put(1)))
}

// Rule 2: a host's connection is there from its AcOpen to an AcClose, an EvReset, or an EvRefused while it is not up.
func TestLinksThere(t *testing.T) {
	c := plain()
	asked, up := comes(ask(0, 0)), event(api.EvUp, base)
	for _, end := range append(gone(base), event(api.EvRefused, base)) {
		breaks(t, c, 2, asked, end, comes(shut(base)))
		breaks(t, c, 2, asked, end, up, comes(put(base)))
	}
	for _, end := range gone(base) {
		breaks(t, c, 2, asked, up, end, comes(shut(base)))
		breaks(t, c, 2, asked, up, end, comes(put(base)))
	}
	// It stays where it is refused behind its being up, and where it ended, and where others are gone.
	keeps(t, c, asked, up, event(api.EvRefused, base, put(base)), up, event(api.EvRefused, base), comes(put(base), shut(base)))
	keeps(t, c, asked, event(api.EvEnd, base), up, event(api.EvEnd, base, put(base)), comes(shut(base)))
	keeps(t, c, opens(base-1), asked, up, event(api.EvReset, base-1), event(api.EvReset, base+1), event(api.EvRefused, base+1), comes(put(base)))
	keeps(t, c, comes(ask(0, 0), shut(base)))
	breaks(t, c, 2, event(api.EvOpen, base), comes(shut(base)))
	breaks(t, c, 2, comes(ask(0, 0), shut(base), shut(base)))
}

// Rule 3: a host has its cap and one connection.
func TestCaps(t *testing.T) {
	c := with(func(c *api.Config) { c.Hosts[2].Cap = 64 })
	breaks(t, c, 3, comes(ask(0, 0), ask(1, 0), ask(2, 0)))
	breaks(t, c, 3, comes(ask(0, 0)), comes(ask(1, 1), ask(2, 1), ask(3, 0), ask(4, 1)), comes(ask(5, 1)))
	var l []api.Act
	for n := range 65 {
		l = append(l, ask(n, 2))
	}
	breaks(t, c, 3, comes(append(l, ask(65, 2))...))
	keeps(t, c, comes(row(l, ask(65, 1), ask(66, 0))...))
	for _, n := range []int{0, 1} {
		for _, end := range append(gone(base+n), event(api.EvRefused, base+n)) {
			full := comes(ask(0, 0), ask(1, 0), ask(2, 1))
			keeps(t, c, full, end, comes(ask(3, 0)))
			breaks(t, c, 3, full, end, comes(ask(3, 0), ask(4, 0)))
			// Its end counts once, though another one is told behind it.
			breaks(t, c, 3, full, end, event(api.EvReset, base+n), comes(ask(3, 0)), comes(ask(4, 0)))
		}
	}
	// Where it is up it is not refused, and another host's end makes no room.
	full := comes(ask(0, 0), ask(1, 0), ask(2, 1))
	breaks(t, c, 3, full, event(api.EvUp, base), event(api.EvRefused, base), comes(ask(3, 0)))
	breaks(t, c, 3, full, event(api.EvReset, base+2), comes(ask(3, 0)))
	breaks(t, c, 3, full, event(api.EvEnd, base), comes(ask(3, 0)))
	keeps(t, c, full, event(api.EvUp, base), event(api.EvReset, base), comes(ask(3, 0)))
}

// Rule 3: who opens where there are as many as there may be is to be closed ahead of any other act that names them.
func TestClients(t *testing.T) {
	c := with(func(c *api.Config) { c.Clients = 2 })
	names := []api.Act{put(3), parsed(3, 0, 0), admit(3, 0, 0), own(3, -1, 503), done(3, 0)}
	full := []api.Step{opens(1), opens(2, put(2))}
	then := func(l ...api.Step) []api.Step { return append(slices.Clone(full), l...) }
	for _, a := range names {
		breaks(t, c, 3, then(opens(3, a))...)
		breaks(t, c, 3, then(opens(3, put(1), ask(0, 0), put(2), a))...)
		// Without an act in its step the first later one counts, be there room by then.
		breaks(t, c, 3, then(opens(3), comes(put(1), a))...)
		breaks(t, c, 3, then(opens(3, put(1)), event(api.EvReset, 1), comes(shut(2)), comes(), comes(a))...)
		breaks(t, c, 3, then(opens(3), opens(3, a))...)
		// Closed or reset they are there no longer.
		breaks(t, c, 2, then(opens(3, shut(3), a))...)
		breaks(t, c, 2, then(opens(3, shut(3)), opens(3, a))...)
		breaks(t, c, 2, then(opens(3), event(api.EvReset, 3), comes(a))...)
	}
	keeps(t, c, then(opens(3, shut(3)), comes(put(1), put(2)))...)
	keeps(t, c, then(opens(3, put(1), ask(0, 0), parsed(2, 0, 0), shut(3), put(1)))...)
	keeps(t, c, then(opens(3), comes(put(1)), comes(shut(3)))...)
	keeps(t, c, then(opens(3, put(1)), event(api.EvReset, 3))...)
	// They count as long as they are there.
	for _, end := range gone(3) {
		breaks(t, c, 3, then(opens(3), end, opens(4, put(4)))...)
		keeps(t, c, then(opens(3), end, event(api.EvReset, 1), opens(4, put(4)))...)
		breaks(t, c, 3, then(opens(3), event(api.EvReset, 1), opens(4, put(4)))...)
		keeps(t, c, then(opens(3), event(api.EvReset, 1), end, opens(4, put(4)))...)
	}
	for _, end := range gone(2) {
		keeps(t, c, then(end, opens(3, put(3)), comes(put(1)))...)
		breaks(t, c, 3, then(end, opens(3), opens(4, put(3), put(4)))...)
	}
	// Who is there may be told to open once more: they do not, and others who came in time are not asked.
	keeps(t, c, then(opens(1, put(1)), opens(2, parsed(2, 0, 0)))...)
	keeps(t, c, then(opens(3), comes(put(1), parsed(2, 0, 0)), comes(shut(3)))...)
	keeps(t, c, then(opens(-1), opens(base), comes(put(1)))...)
	breaks(t, c, 3, then(opens(3, shut(3)), opens(4, put(4)))...)
	// Acts that name no client have their Conn for nothing.
	keeps(t, c, then(opens(0, row(begun(1, 0), ofRoute(api.AcBreak, 1), ofHost(api.AcEject, 2), ofHost(api.AcRestore, 2), ofHost(api.AcDown, 2), ofHost(api.AcHealthy, 2), ofRoute(api.AcMend, 1))...))...)
	// The greatest number of them.
	c.Clients = 256
	var l []api.Step
	for n := range 256 {
		l = append(l, opens(n, put(n)))
	}
	keeps(t, c, l...)
	breaks(t, c, 3, append(l, opens(256, put(256)))...)
}

// Rule 4: requests have numbers in their order, a route or none, and each client one at a time.
func TestParsed(t *testing.T) {
	c := plain()
	for _, req := range []int{-1, 1, 2, math.MinInt, math.MaxInt} {
		breaks(t, c, 4, opens(1), comes(parsed(1, req, 0)))
	}
	for _, req := range []int{-1, 0, 2, 3} {
		breaks(t, c, 4, opens(1), opens(2), comes(parsed(1, 0, 0)), comes(parsed(2, req, 0)))
		breaks(t, c, 4, opens(1), comes(whole(1, 0)...), comes(parsed(1, req, 0)))
		breaks(t, c, 4, opens(1), opens(2), comes(parsed(1, 0, 0), shut(1)), comes(parsed(2, req, 0)))
	}
	for _, route := range []int{-2, 2, math.MinInt, math.MaxInt} {
		breaks(t, c, 4, opens(1), comes(parsed(1, 0, route)))
	}
	for _, route := range []int{-1, 0, 1} {
		keeps(t, c, opens(1), comes(parsed(1, 0, route)))
		breaks(t, c, 4, opens(1), comes(parsed(1, 0, route), parsed(1, 1, route)))
		breaks(t, c, 4, opens(1), comes(parsed(1, 0, route), own(1, 0, 404), parsed(1, 1, route)))
		keeps(t, c, opens(1), comes(parsed(1, 0, route), own(1, 0, 404), done(1, 0), parsed(1, 1, route)))
	}
	keeps(t, c, opens(1), opens(2), comes(parsed(2, 0, 0), parsed(1, 1, 1), own(2, 0, 404), done(2, 0), parsed(2, 2, 0)))
	for _, end := range gone(1) {
		keeps(t, c, opens(1), opens(2), comes(parsed(1, 0, 0)), end, comes(parsed(2, 1, 0)))
	}
}

// Rule 5, AcAdmit: an open request of that client and that route, not admitted and not answered.
func TestAdmits(t *testing.T) {
	c := plain()
	two := []api.Step{opens(1), opens(2)}
	then := func(l ...api.Act) []api.Step { return append(slices.Clone(two), comes(l...)) }
	keeps(t, c, then(parsed(1, 0, 0), parsed(2, 1, 1), admit(2, 1, 1), admit(1, 0, 0))...)
	for name, l := range map[string][]api.Act{
		"never parsed":         {admit(1, 0, 0)},
		"below 0":              {parsed(1, 0, 0), admit(1, -1, 0)},
		"another":              {parsed(1, 0, 0), admit(1, 1, 0)},
		"another's":            {parsed(1, 0, 0), parsed(2, 1, 0), admit(1, 1, 0)},
		"for another":          {parsed(1, 0, 0), admit(2, 0, 0)},
		"done":                 row(whole(1, 0), admit(1, 0, 0)),
		"done, and a next one": row(whole(1, 0), parsed(1, 1, 0), admit(1, 0, 0)),
		"of no route":          {parsed(1, 0, -1), admit(1, 0, -1)},
		"of none, as of one":   {parsed(1, 0, -1), admit(1, 0, 0)},
		"of one, as of none":   {parsed(1, 0, 0), admit(1, 0, -1)},
		"of another route":     {parsed(1, 0, 0), admit(1, 0, 1)},
		"of a route too far":   {parsed(1, 0, 0), admit(1, 0, 2)},
		"twice":                {parsed(1, 0, 0), admit(1, 0, 0), admit(1, 0, 0)},
		"tried":                row(begun(1, 0), admit(1, 0, 0)),
		"answered":             {parsed(1, 0, 0), own(1, 0, 503), admit(1, 0, 0)},
	} {
		breaks(t, c, 5, then(l...)...)
		if t.Failed() {
			t.Fatal(name)
		}
	}
	for _, end := range gone(1) {
		breaks(t, c, 5, append(then(parsed(1, 0, 0)), end, comes(admit(2, 0, 0)))...)
	}
}

// Rule 5, AcTry: an open request that is admitted and not answered, on a host of its route.
func TestTriesOfWhom(t *testing.T) {
	c := plain()
	two := []api.Step{opens(1), opens(2)}
	then := func(l ...api.Act) []api.Step { return append(slices.Clone(two), comes(l...)) }
	keeps(t, c, then(row(begun(1, 0), parsed(2, 1, 1), admit(2, 1, 1), try(1, 2, 0), try(0, 1, 1), try(1, 1, 2))...)...)
	for name, l := range map[string][]api.Act{
		"never parsed":     {try(0, 0, 0)},
		"below 0":          row(begun(1, 0), try(-1, 0, 1)),
		"another":          row(begun(1, 0), try(1, 0, 0)),
		"not admitted":     {parsed(1, 0, 0), try(0, 0, 0)},
		"another admitted": {parsed(1, 0, 0), parsed(2, 1, 0), admit(2, 1, 0), try(0, 0, 0)},
		"of no route":      {parsed(1, 0, -1), try(0, 0, 0)},
		"answered":         {parsed(1, 0, 0), admit(1, 0, 0), own(1, 0, 503), try(0, 0, 0)},
		"answered by one":  row(begun(1, 0), relayed(1, 0, 200), try(0, 0, 1)),
		"done":             row(whole(1, 0), try(0, 0, 0)),
		"another's host":   {parsed(1, 0, 0), admit(1, 0, 0), try(0, 2, 0)},
		"no host":          {parsed(1, 0, 0), admit(1, 0, 0), try(0, -1, 0)},
		"no host, too far": {parsed(1, 0, 0), admit(1, 0, 0), try(0, 3, 0)},
		"a later one's":    row(begun(1, 0), try(0, 2, 1)),
		"a hedge's":        row(begun(1, 0), try(0, 2, 2)),
	} {
		breaks(t, c, 5, then(l...)...)
		if t.Failed() {
			t.Fatal(name)
		}
	}
	for _, end := range gone(1) {
		breaks(t, c, 5, append(then(begun(1, 0)...), end, comes(try(0, 0, 1)))...)
	}
}

// Rule 5, AcTry: the first one is told as such, the others as retries and hedges, of which there are as many as the route says.
func TestTriesOfKinds(t *testing.T) {
	for _, n := range []int{-1, 1, 2, 3, math.MinInt, math.MaxInt} {
		breaks(t, plain(), 5, opens(1), comes(parsed(1, 0, 0), admit(1, 0, 0), try(0, 0, n)))
	}
	for _, n := range []int{-1, 0, 3, math.MinInt, math.MaxInt} {
		breaks(t, plain(), 5, opens(1), comes(row(begun(1, 0), try(0, 0, n))...))
		breaks(t, plain(), 5, opens(1), comes(row(begun(1, 0), try(0, 1, 1), try(0, 0, n))...))
	}
	for retries := range 6 {
		for hedges := range 4 {
			c := with(func(c *api.Config) { c.Routes[0].Retries, c.Routes[0].Hedges = retries, hedges })
			l := row(begun(1, 0), slices.Repeat([]api.Act{try(0, 0, 1)}, retries), slices.Repeat([]api.Act{try(0, 1, 2)}, hedges))
			keeps(t, c, opens(1), comes(l...))
			breaks(t, c, 5, opens(1), comes(append(l, try(0, 0, 1))...))
			breaks(t, c, 5, opens(1), comes(append(l, try(0, 0, 2))...))
			slices.Reverse(l[3:])
			keeps(t, c, opens(1), comes(l...))
			breaks(t, c, 5, opens(1), comes(append(l, try(0, 0, 1))...))
			// Each request has its own.
			keeps(t, c, opens(1), opens(2), comes(row(l, begun(2, 1))...))
		}
	}
	// They are its route's.
	c := with(func(c *api.Config) { c.Routes[0].Retries, c.Routes[0].Hedges = 0, 0 })
	keeps(t, c, opens(1), comes(parsed(1, 0, 1), admit(1, 0, 1), try(0, 2, 0), try(0, 2, 1), try(0, 2, 2)))
}

// several are acts by which so many requests of a route are parsed and admitted at a moment, one behind the other, and over.
func several(n, from, route, now int) []api.Act {
	var l []api.Act
	for i := range n {
		l = append(l, parsed(1, from+i, route), admit(1, from+i, route), own(1, from+i, 503), done(1, from+i))
	}
	return at(now, l...)
}

// next are acts by which one more request is admitted.
func next(req, route, now int) []api.Act {
	return at(now, parsed(1, req, route), admit(1, req, route))
}

// Rule 6: each admission takes a token of its route's bucket, which is full at 0.
func TestRates(t *testing.T) {
	set := func(rate, per, burst int) api.Config {
		return with(func(c *api.Config) {
			c.Routes[0].Rate, c.Routes[0].Per, c.Routes[0].Burst = rate, per, burst
		})
	}
	c := set(1, 10, 2)
	full := []api.Step{opens(1), comes(several(2, 0, 0, 0)...)}
	then := func(l ...api.Step) []api.Step { return append(slices.Clone(full), l...) }
	keeps(t, c, full...)
	breaks(t, c, 6, then(comes(next(2, 0, 0)...))...)
	breaks(t, c, 6, then(ticks(9, next(2, 0, 9)...))...)
	keeps(t, c, then(ticks(10, next(2, 0, 10)...))...)
	breaks(t, c, 6, then(ticks(10, row(several(1, 2, 0, 10), next(3, 0, 10))...))...)
	keeps(t, c, then(ticks(15, several(1, 2, 0, 12)...), ticks(5, next(3, 0, 20)...))...)
	breaks(t, c, 6, then(ticks(15, several(1, 2, 0, 12)...), ticks(5, next(3, 0, 19)...))...)
	// It is the act's moment that counts, within a step of many ticks too, and never more than burst wait.
	keeps(t, c, then(ticks(1000, row(several(1, 2, 0, 10), several(1, 3, 0, 20), several(2, 4, 0, 40), next(6, 0, 1000))...))...)
	breaks(t, c, 6, then(ticks(1000, row(several(1, 2, 0, 10), several(1, 3, 0, 20), several(2, 4, 0, 40), next(6, 0, 49))...))...)
	breaks(t, c, 6, then(ticks(1000), comes(several(2, 2, 0, 1000)...), comes(next(4, 0, 1000)...))...)
	// The other route has its own, and what is not admitted takes nothing.
	keeps(t, c, then(comes(several(50, 2, 1, 0)...))...)
	keeps(t, c, opens(1), comes(row(parsed(1, 0, 0), own(1, 0, 429), done(1, 0), several(2, 1, 0, 0))...))

	breaks(t, set(0, 1, 0), 6, opens(1), comes(next(0, 0, 0)...))
	breaks(t, set(1000000, 1, 0), 6, opens(1), ticks(1000), comes(next(0, 0, 1000)...))
	breaks(t, set(0, 1, 3), 6, opens(1), comes(several(3, 0, 0, 0)...), ticks(api.MaxTick), comes(next(3, 0, api.MaxTick)...))
	keeps(t, set(3, 2, 1), opens(1), comes(several(1, 0, 0, 0)...), ticks(1, next(1, 0, 1)...))
	breaks(t, set(3, 7, 1), 6, opens(1), comes(several(1, 0, 0, 0)...), ticks(2, next(1, 0, 2)...))
	keeps(t, set(3, 7, 1), opens(1), comes(several(1, 0, 0, 0)...), ticks(3, next(1, 0, 3)...))
}

// Rule 7: of a route at most Open admitted requests are open.
func TestOpen(t *testing.T) {
	c := with(func(c *api.Config) { c.Routes[0].Open = 2 })
	four := []api.Step{opens(1), opens(2), opens(3), opens(4), comes(parsed(1, 0, 0), parsed(2, 1, 0), parsed(3, 2, 0), parsed(4, 3, 1))}
	then := func(l ...api.Step) []api.Step { return append(slices.Clone(four), l...) }
	breaks(t, c, 7, then(comes(admit(1, 0, 0), admit(2, 1, 0), admit(3, 2, 0)))...)
	keeps(t, c, then(comes(admit(1, 0, 0), admit(4, 3, 1), admit(3, 2, 0)))...)
	breaks(t, c, 7, then(comes(admit(1, 0, 0)), comes(admit(2, 1, 0)), comes(own(1, 0, 503), admit(3, 2, 0)))...)
	keeps(t, c, then(comes(admit(1, 0, 0)), comes(admit(2, 1, 0)), comes(own(1, 0, 503), done(1, 0), admit(3, 2, 0)))...)
	for _, end := range gone(2) {
		keeps(t, c, then(comes(admit(1, 0, 0), admit(2, 1, 0)), end, comes(admit(3, 2, 0)))...)
	}
	// Those that are not admitted do not count, nor does their end; nor does the other route's.
	for _, end := range append(gone(3), comes(own(3, 2, 404), done(3, 2))) {
		breaks(t, c, 7, then(opens(5, parsed(5, 4, 0), admit(1, 0, 0), admit(2, 1, 0)), end, comes(admit(5, 4, 0)))...)
	}
	for _, end := range append(gone(4), comes(own(4, 3, 404), done(4, 3))) {
		breaks(t, c, 7, then(comes(admit(4, 3, 1), admit(1, 0, 0), admit(2, 1, 0)), end, comes(admit(3, 2, 0)))...)
	}
	c.Routes[0].Open = 1
	breaks(t, c, 7, then(comes(admit(1, 0, 0), admit(3, 2, 0)))...)
	// A request that is done ends once, be its client closed behind that.
	breaks(t, c, 7, then(comes(admit(1, 0, 0), own(1, 0, 503), done(1, 0), admit(2, 1, 0), shut(1), admit(3, 2, 0)))...)
}

// Rule 8: retries and hedges are as many of late as the route's budget says, told of its admissions.
func TestBudgets(t *testing.T) {
	set := func(percent, min, window int) api.Config {
		return with(func(c *api.Config) {
			c.Routes[0].Percent, c.Routes[0].Min, c.Routes[0].Window = percent, min, window
		})
	}
	for _, kind := range []int{1, 2} {
		again := try(0, 0, kind)
		then := func(l ...api.Step) []api.Step {
			return append([]api.Step{opens(1), opens(2), comes(begun(1, 0)...)}, l...)
		}
		breaks(t, set(0, 0, 10), 8, then(comes(again))...)
		breaks(t, set(99, 0, 10), 8, then(comes(again))...)
		breaks(t, set(100, 0, 10), 8, then(comes(again, again))...)
		breaks(t, set(0, 1, 10), 8, then(comes(again, again))...)
		breaks(t, set(100, 1, 10), 8, then(comes(again), comes(try(0, 1, 3-kind)))...)
		breaks(t, set(0, 2, 10), 8, then(comes(again, try(0, 0, 3-kind), again))...)
		// The window ends at the act's moment: what lies a window back is not of late.
		breaks(t, set(0, 1, 10), 8, then(comes(again), ticks(9, at(9, again)...))...)
		keeps(t, set(0, 1, 10), then(comes(again), ticks(10, at(10, again)...))...)
		breaks(t, set(0, 1, 10), 8, then(comes(again), ticks(10, at(9, again)...))...)
		keeps(t, set(100, 0, 10), then(ticks(9, at(9, again)...))...)
		breaks(t, set(100, 0, 10), 8, then(ticks(10, at(10, again)...))...)
		// Half of the requests, rounded down; all that were admitted count, be they done, and those of the other route not.
		keeps(t, set(50, 0, 10), then(comes(parsed(2, 1, 0), admit(2, 1, 0), again))...)
		keeps(t, set(50, 0, 10), then(comes(row(parsed(2, 1, 0), admit(2, 1, 0), own(2, 1, 503), done(2, 1), again)...))...)
		breaks(t, set(50, 0, 10), 8, then(comes(parsed(2, 1, 0), again))...)
		breaks(t, set(50, 0, 10), 8, then(comes(parsed(2, 1, 1), admit(2, 1, 1), again))...)
		breaks(t, set(50, 0, 10), 8, then(comes(parsed(2, 1, 0), admit(2, 1, 0), own(2, 1, 503), done(2, 1), parsed(2, 2, 0), admit(2, 2, 0), again, again))...)
		// The other route's are let through beside them.
		keeps(t, set(0, 1, 10), then(comes(parsed(2, 1, 1), admit(2, 1, 1), try(1, 2, 0), try(1, 2, 1), try(1, 2, 2), again))...)
		// First ones need none.
		keeps(t, set(0, 1, 10), then(comes(again), comes(begun(2, 1)...))...)
		breaks(t, set(0, 1, 10), 8, then(comes(row(begun(2, 1), again, try(1, 0, kind))...))...)
	}
}

// Rule 9: from an AcBreak on nothing is tried for Cool ticks, and behind that at most Probes, ahead of the next AcMend or AcBreak.
func TestBreakers(t *testing.T) {
	c := plain()
	broken, mended := ofRoute(api.AcBreak, 0), ofRoute(api.AcMend, 0)
	first := []api.Act{parsed(1, 0, 0), admit(1, 0, 0)}
	then := func(l ...api.Step) []api.Step { return append([]api.Step{opens(1), opens(2), ticks(10)}, l...) }
	for kind := range 3 {
		l, again := first, try(0, 0, kind)
		if kind > 0 {
			l = begun(1, 0)
		}
		parts := comes(at(10, row(l, broken)...)...)
		breaks(t, c, 9, then(comes(at(10, row(l, broken, again)...)...))...)
		breaks(t, c, 9, then(parts, comes(at(10, again)...))...)
		breaks(t, c, 9, then(parts, ticks(4, at(14, again)...))...)
		breaks(t, c, 9, then(parts, ticks(9, at(14, again)...))...)
		keeps(t, c, then(parts, ticks(5, at(15, again)...))...)
		keeps(t, c, then(parts, ticks(9, at(15, again)...))...)
		keeps(t, c, then(parts, ticks(900, at(910, again)...))...)
		// What was tried ahead of it does not count.
		keeps(t, c, then(comes(at(10, row(begun(2, 0), try(0, 1, 1), try(0, 1, 1), broken, parsed(1, 1, 0), admit(1, 1, 0))...)...), ticks(5, at(15, try(1, 0, 0), try(0, 1, 2))...))...)
	}
	// Two probes, of whatever kind and whosever; a third one not, however long it waits.
	tried := []api.Step{comes(at(10, row(begun(1, 0), broken, parsed(2, 1, 0), admit(2, 1, 0))...)...), ticks(5, at(15, try(0, 0, 1), try(1, 0, 0))...)}
	for kind := range 2 {
		breaks(t, c, 9, then(append(tried, comes(at(15, try(kind, 0, 2))...))...)...)
		breaks(t, c, 9, then(append(tried, ticks(900, at(915, try(kind, 1, 2))...))...)...)
		keeps(t, c, then(append(tried, comes(at(15, mended, try(kind, 0, 2), try(0, 0, 2), try(1, 0, 2), try(1, 1, 1))...))...)...)
	}
	// It breaks again: for Cool ticks none, and then as many again.
	breaks(t, c, 9, then(append(tried, comes(at(15, broken)...), ticks(5, at(19, try(0, 0, 2))...))...)...)
	keeps(t, c, then(append(tried, comes(at(15, broken)...), ticks(5, at(20, try(0, 0, 2), try(0, 0, 2))...))...)...)
	breaks(t, c, 9, then(append(tried, comes(at(15, broken)...), ticks(5, at(20, try(0, 0, 2), try(0, 0, 2))...), comes(at(20, try(1, 0, 1))...))...)...)
	breaks(t, c, 9, then(comes(at(10, row(first, broken)...)...), ticks(3, at(13, broken)...), ticks(4, at(17, try(0, 0, 0))...))...)
	keeps(t, c, then(comes(at(10, row(first, broken)...)...), ticks(3, at(13, broken)...), ticks(5, at(18, try(0, 0, 0))...))...)
	// The words name no AcMend for the Cool ticks: one within them leaves these, and ends what comes behind them.
	breaks(t, c, 9, then(comes(at(10, row(first, broken, mended, try(0, 0, 0))...)...))...)
	breaks(t, c, 9, then(comes(at(10, row(first, broken, mended)...)...), ticks(4, at(14, try(0, 0, 0))...))...)
	keeps(t, c, then(comes(at(10, row(first, broken, mended)...)...), ticks(5, at(15, try(0, 0, 0), try(0, 0, 1), try(0, 0, 1))...))...)
	// An AcMend of one that did not break changes nothing.
	keeps(t, c, then(comes(at(10, row(mended, mended, begun(1, 0), try(0, 0, 1), try(0, 0, 1))...)...))...)
	// The other route's is its own.
	keeps(t, c, then(comes(at(10, row(ofRoute(api.AcBreak, 1), begun(1, 0), try(0, 0, 1), try(0, 0, 1), try(0, 0, 1))...)...))...)
	breaks(t, c, 9, then(comes(at(10, ofRoute(api.AcBreak, 1), parsed(1, 0, 1), admit(1, 0, 1), mended, try(0, 2, 0))...))...)
	breaks(t, c, 9, then(append(tried, comes(at(15, ofRoute(api.AcMend, 1), ofRoute(api.AcBreak, 1), try(0, 0, 2))...))...)...)
	for _, kind := range []int{api.AcBreak, api.AcMend} {
		keeps(t, c, comes(ofRoute(kind, 0), ofRoute(kind, 1), ofRoute(kind, 1)))
		for _, route := range []int{-1, 2, math.MinInt, math.MaxInt} {
			breaks(t, c, 9, comes(ofRoute(kind, route)))
		}
	}
	// Cool stops at the greatest moment.
	keeps(t, c, opens(1), ticks(api.MaxTick), comes(at(api.MaxTick, row(first, broken, try(0, 0, 0), try(0, 0, 1))...)...))
}

// Rule 10: no attempt goes to a host that is ejected or down.
func TestUsable(t *testing.T) {
	c := plain()
	for _, x := range [][2]int{{api.AcEject, api.AcRestore}, {api.AcDown, api.AcHealthy}} {
		off, on := x[0], x[1]
		for kind := range 3 {
			l := []api.Act{parsed(1, 0, 0), admit(1, 0, 0)}
			if kind > 0 {
				l = begun(1, 0)
			}
			breaks(t, c, 10, opens(1), comes(row(l, ofHost(off, 0), try(0, 0, kind))...))
			breaks(t, c, 10, opens(1), comes(row(ofHost(off, 1), l)...), ticks(900), comes(at(900, try(0, 1, kind))...))
			keeps(t, c, opens(1), comes(row(l, ofHost(off, 0), try(0, 1, kind))...))
			keeps(t, c, opens(1), comes(row(l, ofHost(off, 0), ofHost(on, 0), try(0, 0, kind))...))
			breaks(t, c, 10, opens(1), comes(row(l, ofHost(off, 0), ofHost(off, 1), ofHost(on, 1), try(0, 0, kind))...))
			breaks(t, c, 10, opens(1), comes(row(l, ofHost(off, 0), ofHost(on, 0), ofHost(off, 0), try(0, 0, kind))...))
		}
		breaks(t, c, 10, comes(ofHost(off, 1), ofHost(off, 1)))
		breaks(t, c, 10, comes(ofHost(on, 1)))
		breaks(t, c, 10, comes(ofHost(off, 0), ofHost(on, 1)))
		breaks(t, c, 10, comes(ofHost(off, 1), ofHost(on, 1), ofHost(on, 1)))
		keeps(t, c, comes(ofHost(off, 0), ofHost(off, 2), ofHost(off, 1), ofHost(on, 0)), comes(ofHost(off, 0), ofHost(on, 2)))
		for _, host := range []int{-1, 3, math.MinInt, math.MaxInt} {
			breaks(t, c, 10, comes(ofHost(off, host)))
			breaks(t, c, 10, comes(ofHost(off, 0), ofHost(on, host)))
		}
	}
	// Both may be so, and one of them does not end the other.
	both := row(parsed(1, 0, 0), admit(1, 0, 0), ofHost(api.AcEject, 0), ofHost(api.AcDown, 0))
	breaks(t, c, 10, opens(1), comes(row(both, ofHost(api.AcRestore, 0), try(0, 0, 0))...))
	breaks(t, c, 10, opens(1), comes(row(both, ofHost(api.AcHealthy, 0), try(0, 0, 0))...))
	breaks(t, c, 10, opens(1), comes(row(both, ofHost(api.AcHealthy, 0), ofHost(api.AcHealthy, 0))...))
	keeps(t, c, opens(1), comes(row(both, ofHost(api.AcHealthy, 0), ofHost(api.AcRestore, 0), try(0, 0, 0))...))
}

// Rule 10: at most Share of 100 of all hosts are ejected.
func TestShare(t *testing.T) {
	for _, x := range []struct{ hosts, share, most int }{
		{3, 0, 0}, {3, 33, 0}, {3, 34, 1}, {3, 66, 1}, {3, 67, 2}, {3, 99, 2}, {3, 100, 3},
		{1, 99, 0}, {1, 100, 1}, {16, 6, 0}, {16, 7, 1}, {16, 50, 8}, {16, 49, 7}, {16, 100, 16},
	} {
		c := with(func(c *api.Config) {
			c.Share, c.Hosts = x.share, nil
			for i := range x.hosts {
				c.Hosts = append(c.Hosts, api.Host{Name: string(rune('a' + i)), Cap: 1})
			}
			c.Routes = c.Routes[:1]
			c.Routes[0].Hosts = []int{0}
		})
		var l []api.Act
		for i := range x.most {
			l = append(l, ofHost(api.AcEject, x.hosts-1-i))
		}
		keeps(t, c, comes(l...))
		if x.most < x.hosts {
			breaks(t, c, 10, comes(append(slices.Clone(l), ofHost(api.AcEject, 0))...))
		}
		if x.most > 0 {
			l = append(l, ofHost(api.AcRestore, x.hosts-1), ofHost(api.AcEject, x.hosts-1))
			keeps(t, c, comes(l...))
		}
		// Those that are down are not among them.
		if x.most == 1 {
			keeps(t, c, comes(ofHost(api.AcDown, 0), ofHost(api.AcEject, 0)))
		}
	}
}

// nine are the statuses of own answers.
var nine = []int{400, 404, 408, 413, 429, 431, 502, 503, 504}

// Rule 11, AcAnswer of no request: the client has none that is open, and neither a request nor an answer comes behind it.
func TestAnswersToNone(t *testing.T) {
	c := plain()
	for status := -1; status < 700; status++ {
		rule := 11
		if slices.Contains(nine, status) {
			rule = 0
		}
		check(t, c, rule, min(rule, 1), opens(1), comes(own(1, -1, status)))
	}
	for _, n := range []int{-1, 1, 2} {
		a := own(1, -1, 400)
		a.N = n
		breaks(t, c, 11, opens(1), comes(a))
	}
	breaks(t, c, 11, opens(1), comes(parsed(1, 0, 0), own(1, -1, 400)))
	breaks(t, c, 11, opens(1), comes(row(begun(1, 0), relayed(1, 0, 200), own(1, -1, 400))...))
	keeps(t, c, opens(1), comes(row(whole(1, 0), own(1, -1, 400))...))
	keeps(t, c, opens(1), opens(2), comes(parsed(2, 0, 0), own(1, -1, 408)))
	for _, req := range []int{-2, math.MinInt} {
		breaks(t, c, 11, opens(1), comes(own(1, req, 400)))
	}

	ended := []api.Step{opens(1), opens(2, parsed(2, 0, 0)), comes(own(1, -1, 400))}
	then := func(l ...api.Step) []api.Step { return append(slices.Clone(ended), l...) }
	for _, a := range []api.Act{parsed(1, 1, 0), parsed(1, 1, -1), own(1, -1, 400), own(1, 0, 400), relayed(1, 0, 200), own(1, 7, 999)} {
		breaks(t, c, 11, then(comes(a))...)
		breaks(t, c, 11, then(ticks(900), comes(at(900, put(1), put(2), a)...))...)
		breaks(t, c, 11, opens(1), opens(2, parsed(2, 0, 0)), comes(own(1, -1, 400), a))
	}
	keeps(t, c, then(comes(put(1), own(2, 0, 404), done(2, 0), parsed(2, 1, 0), shut(1)))...)
	// Other acts that name it are what they would be.
	breaks(t, c, 5, then(comes(admit(1, 0, 0)))...)
	breaks(t, c, 11, then(comes(done(1, 0)))...)
	breaks(t, c, 11, then(comes(done(1, -1)))...)
}

// Rule 11, AcAnswer of a request: an open one of that client, answered once; by the proxy with one of nine statuses, by a host with any, if it was tried.
func TestAnswers(t *testing.T) {
	c := plain()
	for status := -1; status < 700; status++ {
		rule := 11
		if slices.Contains(nine, status) {
			rule = 0
		}
		check(t, c, rule, min(rule, 1), opens(1), comes(parsed(1, 0, 0), own(1, 0, status)))
		check(t, c, rule, min(rule, 1), opens(1), comes(append(begun(1, 0), own(1, 0, status))...))
		check(t, c, 11, 1, opens(1), comes(parsed(1, 0, 0), relayed(1, 0, status)))
		check(t, c, 11, 1, opens(1), comes(parsed(1, 0, 0), admit(1, 0, 0), relayed(1, 0, status)))
		rule = 11
		if 200 <= status && status <= 599 {
			rule = 0
		}
		check(t, c, rule, min(rule, 1), opens(1), comes(append(begun(1, 0), relayed(1, 0, status))...))
	}
	for _, status := range []int{math.MinInt, math.MaxInt} {
		breaks(t, c, 11, opens(1), comes(append(begun(1, 0), relayed(1, 0, status))...))
		breaks(t, c, 11, opens(1), comes(append(begun(1, 0), own(1, 0, status))...))
	}
	for _, n := range []int{-1, 2, math.MinInt, math.MaxInt} {
		a := own(1, 0, 503)
		a.N = n
		breaks(t, c, 11, opens(1), comes(append(begun(1, 0), a)...))
	}
	for name, l := range map[string][]api.Act{
		"never parsed":  {own(1, 0, 404)},
		"another":       {parsed(1, 0, 0), own(1, 1, 404)},
		"another's":     {parsed(2, 0, 0), own(1, 0, 404)},
		"done":          row(whole(1, 0), own(1, 0, 404)),
		"twice":         {parsed(1, 0, 0), own(1, 0, 404), own(1, 0, 404)},
		"twice, relays": row(begun(1, 0), relayed(1, 0, 200), relayed(1, 0, 200)),
		"both":          row(begun(1, 0), relayed(1, 0, 200), own(1, 0, 502)),
		"both, turned":  row(begun(1, 0), own(1, 0, 502), relayed(1, 0, 200)),
		"other tried":   row(begun(2, 0), parsed(1, 1, 0), admit(1, 1, 0), relayed(1, 1, 200)),
	} {
		breaks(t, c, 11, opens(1), opens(2), comes(l...))
		if t.Failed() {
			t.Fatal(name)
		}
	}
	for _, end := range gone(1) {
		breaks(t, c, 11, opens(1), opens(2), comes(parsed(1, 0, 0)), end, comes(own(2, 0, 404)))
	}
	keeps(t, c, opens(1), comes(row(whole(1, 0), begun(1, 1), relayed(1, 1, 599), done(1, 1))...), comes(parsed(1, 2, -1), own(1, 2, 404)))
}

// Rule 11, AcDone: an open request of that client that was answered.
func TestDone(t *testing.T) {
	c := plain()
	for name, l := range map[string][]api.Act{
		"never parsed":  {done(1, 0)},
		"none":          {own(1, -1, 400), done(1, -1)},
		"not answered":  {parsed(1, 0, 0), done(1, 0)},
		"tried":         row(begun(1, 0), done(1, 0)),
		"another":       {parsed(1, 0, 0), own(1, 0, 404), done(1, 1)},
		"another's":     {parsed(2, 0, 0), own(2, 0, 404), done(1, 0)},
		"twice":         row(whole(1, 0), done(1, 0)),
		"other's alone": {parsed(1, 0, 0), parsed(2, 1, 0), own(2, 1, 404), done(1, 0)},
	} {
		breaks(t, c, 11, opens(1), opens(2), comes(l...))
		if t.Failed() {
			t.Fatal(name)
		}
	}
	keeps(t, c, opens(1), comes(row(begun(1, 0), relayed(1, 0, 200))...), ticks(900, at(900, done(1, 0))...))
	for _, end := range gone(1) {
		breaks(t, c, 11, opens(1), opens(2), comes(parsed(1, 0, 0), own(1, 0, 404)), end, comes(done(2, 0)))
	}
}
