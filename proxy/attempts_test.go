package proxy_test

import (
	"fmt"
	"strings"
	"testing"

	"headrace/api"
)

// bad is a host's answer of a status, without a body.
func bad(status int) string {
	return fmt.Sprintf("HTTP/1.1 %d X\r\nContent-Length: 0\r\n\r\n", status)
}

// badBack is it as it goes back.
func badBack(status int) string {
	return fmt.Sprintf("HTTP/1.1 %d X\r\nContent-Length: 0\r\nVia: 1.1 headrace\r\n\r\n", status)
}

// failures are the ways in which the attempt of the n-th connection fails: what happens, what is done by it alone, and the status where none is left.
func failures(n int) []struct {
	name   string
	l      []api.Event
	done   []string
	status int
	unsent bool
} {
	closed := []string{fmt.Sprint("close h", n)}
	type row = struct {
		name   string
		l      []api.Event
		done   []string
		status int
		unsent bool
	}
	return []row{
		{"refused", []api.Event{refused(n)}, nil, 503, true},
		{"reset while it opens", []api.Event{reset(h(n))}, nil, 503, true},
		{"ended while it opens", []api.Event{ends(h(n))}, closed, 503, true},
		{"reset", []api.Event{up(n), reset(h(n))}, nil, 502, false},
		{"reset in the head", []api.Event{up(n), came(h(n), ok[:9]), reset(h(n))}, nil, 502, false},
		{"ended", []api.Event{up(n), ends(h(n))}, closed, 502, false},
		{"ended in the head", []api.Event{up(n), came(h(n), ok[:9]), ends(h(n))}, closed, 502, false},
		{"wrong", []api.Event{up(n), came(h(n), "HTTP/1.1 2000 X\r\n")}, closed, 502, false},
		{"no framing", []api.Event{up(n), came(h(n), "HTTP/1.1 200 X\r\nContent-Length: 1, 2\r\n\r\n")}, closed, 502, false},
		{"too large", []api.Event{up(n), came(h(n), strings.Repeat("x", 401))}, closed, 502, false},
		{"switching", []api.Event{up(n), came(h(n), "HTTP/1.1 101 X\r\n\r\n")}, closed, 502, false},
		{"interim for ever", []api.Event{up(n), came(h(n), strings.Repeat("HTTP/1.1 103 X\r\n\r\n", 9))}, closed, 502, false},
		{"late while it opens", []api.Event{tick(50)}, closed, 504, false},
		{"late", []api.Event{up(n), tick(50)}, closed, 504, false},
		{"late in the head", []api.Event{up(n), came(h(n), ok[:9]), tick(50)}, closed, 504, false},
	}
}

// Each way to fail without a retry left, with one, and where the request may not be sent again.
func TestFailures(t *testing.T) {
	for retries := range 3 {
		c := with(func(c *api.Config, r *api.Route) { r.Retries, r.PerTry = retries, 50 })
		for _, x := range failures(0) {
			for _, text := range []string{get, strings.Replace(get, "GET", "PATCH", 1)} {
				t.Run(fmt.Sprint(x.name, retries, text[:3]), func(t *testing.T) {
					s := served(t, c)
					s.play(came(1, text))
					last := len(x.l) - 1
					s.play(x.l[:last]...)
					if retries == 0 || text != get && !x.unsent {
						s.do(x.l[last], row(x.done, ownLines(1, 0, x.status))...)
						s.holds(1, 0)
						return
					}
					s.do(x.l[last], row(x.done, []string{"try 1 0 0 1", "open h1 0"})...)
					s.holds(2, 0)
					sentOn := strings.Replace(onward, "GET", text[:strings.Index(text, " ")], 1)
					s.do(up(1), "write h1 "+sentOn)
					s.do(came(h(1), ok), "answer 1 0 200 1", "done 1 0", "write 1 "+back)
				})
			}
		}
	}
}

// Each way to fail while a hedge runs: the hedge goes on.
func TestFailuresBesideHedge(t *testing.T) {
	c := with(func(c *api.Config, r *api.Route) { r.Hedges, r.HedgeAfter, r.PerTry = 1, 10, 50; widen(c, 2) })
	for _, x := range failures(0) {
		t.Run(x.name, func(t *testing.T) {
			s := served(t, c)
			s.play(came(1, get))
			late := x.l[len(x.l)-1].Kind == api.EvTick
			rest := x.l
			if late {
				s.play(rest[:len(rest)-1]...)
				rest = nil
			}
			s.do(tick(10), "try 1 0 1 2", "open h1 1")
			s.do(up(1), "write h1 "+onward)
			if late {
				s.do(tick(39))
				s.do(tick(1), "close h0")
			} else {
				s.play(rest[:len(rest)-1]...)
				s.do(rest[len(rest)-1], x.done...)
			}
			s.holds(2, 0)
			s.do(came(h(1), ok), "answer 1 0 200 1", "done 1 0", "write 1 "+back)
		})
	}
}

// Retries are as many as the route's, and each one fails as it does.
func TestAllRetries(t *testing.T) {
	s := served(t, with(func(c *api.Config, r *api.Route) { r.Retries = 5 }))
	s.do(came(1, get), firstTry()...)
	for n := range 5 {
		s.do(refused(n), "try 1 0 0 1", fmt.Sprintf("open h%d 0", n+1))
	}
	s.play(up(5))
	s.do(reset(h(5)), ownLines(1, 0, 502)...)
}

// Which methods may be sent again.
func TestSafe(t *testing.T) {
	for method, safe := range map[string]bool{"GET": true, "HEAD": true, "PUT": true, "DELETE": true, "OPTIONS": true, "TRACE": true, "POST": false, "PATCH": false, "get": false, "GETS": false, "X": false} {
		s := sent(t, with(func(c *api.Config, r *api.Route) { r.Retries = 1 }), strings.Replace(get, "GET", method, 1))
		s.play(reset(h(0)))
		if again := s.last().Kind == api.AcOpen; again != safe {
			t.Errorf("%s: %v", method, again)
		}
	}
}

// A host's 502, 503 and 504 are made again, if they may be; the last one is answered as it is. Others are answered at once.
func TestBadStatuses(t *testing.T) {
	for _, status := range []int{200, 404, 500, 501, 502, 503, 504, 505, 599} {
		s := sent(t, with(func(c *api.Config, r *api.Route) { r.Retries = 1 }), get)
		answered := []string{fmt.Sprintf("answer 1 0 %d 1", status), "done 1 0", "write 1 " + badBack(status)}
		if status < 502 || status > 504 {
			s.do(came(h(0), bad(status)), answered...)
			continue
		}
		s.do(came(h(0), bad(status)), "close h0", "try 1 0 0 1", "open h1 0")
		s.play(up(1))
		s.do(came(h(1), bad(status)), answered...)

		s = sent(t, with(func(c *api.Config, r *api.Route) { r.Retries = 1 }), post)
		s.do(came(h(0), bad(status)), answered...)
	}
}

// Hosts that no attempt of the request was on come first; when all were, all are drawn from again.
func TestFreshHosts(t *testing.T) {
	s := served(t, with(func(c *api.Config, r *api.Route) { widen(c, 3); r.Retries = 5 }))
	// Two draws tell hosts 2 and 0, of the same load: the lesser one.
	s.do(draw(2))
	s.do(draw(0))
	s.do(came(1, get), firstTry()...)
	// Left are 1 and 2.
	s.do(refused(0), "try 1 0 1 1", "open h1 1")
	// The last one left is not drawn.
	s.do(draw(1))
	s.do(refused(1), "try 1 0 2 1", "open h2 2")
	// All again: 1 and 0.
	s.do(draw(1))
	s.do(refused(2), "try 1 0 1 1", "open h3 1")
	s.do(refused(3), "try 1 0 0 1", "open h4 0")
}

// Of two hosts that are drawn the one of the less load is taken: fewer attempts that run, and less latency.
func TestLoads(t *testing.T) {
	c := with(func(c *api.Config, r *api.Route) {
		widen(c, 3)
		for i := range c.Hosts {
			c.Hosts[i].Cap = 9
		}
		r.Hosts = []int{2, 0, 1}
	})
	s := begin(t, c)
	hosts := func(conn int, draws ...int) int {
		s.Helper()
		for _, n := range draws {
			s.do(draw(n))
		}
		s.play(open(conn), room(conn, much), came(conn, get))
		for _, a := range s.steps[len(s.steps)-1].Acts {
			if a.Kind == api.AcTry {
				return a.Host
			}
		}
		return -1
	}
	// Without draws they are 0 and 1.
	if x := hosts(1); x != 0 {
		t.Error(x)
	}
	if x := hosts(2); x != 1 {
		t.Error(x)
	}
	// Both have one now.
	if x := hosts(3, 1, 0); x != 0 {
		t.Error(x)
	}
	// 0 and 2.
	if x := hosts(4, 0, 1); x != 2 {
		t.Error(x)
	}
	// The second draw is of the hosts but the first: 2 and 1, which have one each.
	s.play(reset(1))
	if x := hosts(5, 5, 4); x != 0 && x != 1 {
		t.Error(x)
	}
}

// The latency of a head is a sample: a host that took long is taken where the other one has as much to do as that is worth.
func TestLatency(t *testing.T) {
	c := with(func(c *api.Config, r *api.Route) { widen(c, 2); c.Hosts[0].Cap, c.Hosts[1].Cap = 9, 9; c.Clients = 9 })
	s := begin(t, c)
	try := func(conn int) int {
		s.play(open(conn), room(conn, much), came(conn, get))
		for _, a := range s.steps[len(s.steps)-1].Acts {
			if a.Kind == api.AcTry {
				return a.Host
			}
		}
		return -1
	}
	s.do(tick(500))
	if try(1) != 0 {
		t.Fatal("host 0 is the first one")
	}
	s.play(tick(3), up(0), came(h(0), ok))
	// Host 0: (3 + 1) * 1; host 1: (0 + 1) times one more than run.
	for conn := 2; conn < 5; conn++ {
		if x := try(conn); x != 1 {
			t.Errorf("client %d: %d", conn, x)
		}
	}
	// 4 and 4: the lesser one; then 8 and 4.
	if x := try(5); x != 0 {
		t.Error(x)
	}
	if x := try(6); x != 1 {
		t.Error(x)
	}
	// Those that are let go, fail or end run no longer: 4 and 3.
	s.play(reset(5), reset(2), refused(2))
	if x := try(7); x != 1 {
		t.Error(x)
	}
}

// An attempt runs no longer when it failed, be it told again by its client's going; nor when its answer is cut off.
func TestRunsNoLonger(t *testing.T) {
	start := func() *stage {
		s := begin(t, with(func(c *api.Config, r *api.Route) {
			widen(c, 2)
			c.Hosts[0].Cap, c.Hosts[1].Cap = 9, 9
			r.Retries = 1
		}))
		s.play(open(1), open(2), open(3), draw(1), draw(0))
		return s
	}
	s := start()
	s.do(came(2, get), firstTryOf(2, 0)...)
	s.do(came(1, get), "parsed 1 1 0", "admit 1 1 0", "try 1 1 1 0", "open h1 1")
	s.do(refused(1), "try 1 1 0 1", "open h2 0")
	s.do(reset(1), "close h2")
	s.do(reset(2), "close h0")
	s.do(came(3, get), "parsed 3 2 0", "admit 3 2 0", "try 3 2 0 0", "open h3 0")
	// Host 0 cuts off an answer for which there is no room.
	s = start()
	s.do(came(2, get), firstTryOf(2, 0)...)
	s.do(up(0), "write h0 "+onward)
	s.do(came(h(0), ok[:len(ok)-1]), "answer 2 0 200 1")
	s.do(reset(h(0)))
	s.do(came(3, get), "parsed 3 1 0", "admit 3 1 0", "try 3 1 0 0", "open h1 0")
}

// firstTryOf is what is done with a client's first request of all, on a host.
func firstTryOf(conn, host int) []string {
	return []string{fmt.Sprint("parsed ", conn, " 0 0"), fmt.Sprint("admit ", conn, " 0 0"), fmt.Sprint("try ", conn, " 0 ", host, " 0"), fmt.Sprint("open h0 ", host)}
}

// Open, Wait and Full; who waits gets a connection that is used again, or a new one.
func TestPool(t *testing.T) {
	start := func(t *testing.T) *stage {
		s := begin(t, with(func(c *api.Config, r *api.Route) { c.Hosts[0].Cap = 1 }))
		for conn := 1; conn <= 3; conn++ {
			s.play(open(conn), room(conn, much))
		}
		s.do(came(1, get), firstTry()...)
		s.do(came(2, get), "parsed 2 1 0", "admit 2 1 0", "try 2 1 0 0")
		s.do(came(3, get), row([]string{"parsed 3 2 0", "admit 3 2 0", "try 3 2 0 0"}, ownLines(3, 2, 503))...)
		s.holds(4, 0)
		s.do(up(0), "write h0 "+onward)
		return s
	}
	s := start(t)
	s.do(came(h(0), ok), "answer 1 0 200 1", "write h0 "+onward, "done 1 0", "write 1 "+back)
	s.do(came(h(0), ok), "answer 2 1 200 1", "done 2 1", "write 2 "+back)
	s = start(t)
	s.do(came(h(0), strings.Replace(ok, "OK\r\n", "OK\r\nConnection: close\r\n", 1)), "answer 1 0 200 1", "close h0", "open h1 0", "done 1 0", "write 1 "+back)
	s.do(up(1), "write h1 "+onward)
	s = start(t)
	s.do(reset(h(0)), row([]string{"open h1 0"}, ownLines(1, 0, 502))...)
	s = start(t)
	s.do(reset(1), "close h0", "open h1 0")
	s = start(t)
	s.do(reset(2))
	s.do(came(h(0), ok), "answer 1 0 200 1", "done 1 0", "write 1 "+back)
	s.do(came(3, get), "parsed 3 3 0", "admit 3 3 0", "try 3 3 0 0", "write h0 "+onward)
}

// One that waits is late, or hedged, as any other one; where its pool is full a retry is made elsewhere.
func TestWaiting(t *testing.T) {
	c := with(func(c *api.Config, r *api.Route) {
		widen(c, 2)
		c.Hosts[0].Pend = 1
		r.Retries, r.PerTry = 1, 50
	})
	s := begin(t, c)
	for conn := 1; conn <= 4; conn++ {
		s.play(open(conn), room(conn, much))
	}
	s.do(came(1, get), firstTry()...)
	s.do(came(2, get), "parsed 2 1 0", "admit 2 1 0", "try 2 1 1 0", "open h1 1")
	s.do(tick(10))
	// Both have one: host 0, where it waits.
	s.do(came(3, get), "parsed 3 2 0", "admit 3 2 0", "try 3 2 0 0")
	// Host 1 has one, host 0 two: full, then full too.
	s.do(came(4, get), row([]string{"parsed 4 3 0", "admit 4 3 0", "try 4 3 1 0", "try 4 3 0 1"}, ownLines(4, 3, 503))...)
	s.play(up(0), came(h(0), ok[:len(ok)-1]), refused(1))
	s.do(tick(49))
	s.do(tick(1), "try 3 2 1 1", "open h2 1")
}

// A hedge is made HedgeAfter ticks behind the last attempt; the first head wins, and the others are let go.
func TestHedges(t *testing.T) {
	c := with(func(c *api.Config, r *api.Route) { widen(c, 3); r.Hedges, r.HedgeAfter = 2, 10 })
	s := sent(t, c, get)
	s.do(tick(9))
	s.do(tick(1), "try 1 0 1 2", "open h1 1")
	s.do(tick(9))
	s.do(tick(1), "try 1 0 2 2", "open h2 2")
	s.do(tick(100))
	s.do(up(1), "write h1 "+onward)
	s.holds(4, 0)
	s.do(came(h(1), ok), "close h0", "close h2", "answer 1 0 200 1", "done 1 0", "write 1 "+back)
	s.holds(2, 0)
	s.do(came(h(0), ok))
	s.do(up(2))

	// A bad status is let go as long as another one runs.
	s = sent(t, c, get)
	s.play(tick(10), up(1))
	s.do(came(h(1), bad(503)), "close h1")
	s.do(came(h(0), bad(502)), "answer 1 0 502 1", "done 1 0", "write 1 "+badBack(502))
}

// Whether a retry or a hedge may be made: by the budget, the breaker, and the hosts.
func TestNotAllowed(t *testing.T) {
	for name, x := range map[string]struct {
		set  func(c *api.Config, r *api.Route)
		done []string
	}{
		"budget":  {func(c *api.Config, r *api.Route) { r.Percent, r.Min = 99, 0 }, nil},
		"breaker": {func(c *api.Config, r *api.Route) { r.Fails = 1 }, []string{"break 0"}},
		"hosts":   {func(c *api.Config, r *api.Route) { c.Fails = 1 }, []string{"eject 0"}},
	} {
		t.Run(name, func(t *testing.T) {
			c := with(func(c *api.Config, r *api.Route) { r.Retries = 1; x.set(c, r) })
			s := served(t, c)
			s.do(came(1, get), firstTry()...)
			s.do(refused(0), row(x.done, ownLines(1, 0, 503))...)
			s = sent(t, c, get)
			s.do(reset(h(0)), row(x.done, ownLines(1, 0, 502))...)
		})
	}
}

// A hedge that is not allowed once is never made, though it might be later.
func TestNoHedge(t *testing.T) {
	start := func(set func(c *api.Config, r *api.Route)) *stage {
		s := begin(t, with(func(c *api.Config, r *api.Route) {
			widen(c, 2)
			c.Hosts[0].Cap, c.Hosts[1].Cap = 2, 2
			r.Hedges, r.HedgeAfter = 1, 50
			set(c, r)
		}))
		for conn := 1; conn <= 3; conn++ {
			s.play(open(conn), room(conn, much), came(conn, get))
		}
		return s
	}
	s := start(func(c *api.Config, r *api.Route) { r.Percent, r.Min = 0, 0 })
	s.do(tick(1000))
	// The breaker is open at 50, and half open from 60 on.
	s = start(func(c *api.Config, r *api.Route) { r.Fails, r.Cool, r.Probes = 1, 20, 9 })
	s.do(tick(40))
	s.do(refused(0), row([]string{"break 0"}, ownLines(1, 0, 503))...)
	s.do(tick(1000))
	// Both hosts are ejected at 50, and restored at 60.
	s = start(func(c *api.Config, r *api.Route) { c.Fails, c.Base = 1, 20 })
	s.do(tick(40))
	s.do(refused(0), row([]string{"eject 0"}, ownLines(1, 0, 503))...)
	s.do(refused(1), row([]string{"eject 1"}, ownLines(2, 1, 503))...)
	s.do(tick(1000), "@60 restore 0", "@60 restore 1")
}

// The budget: a percent of the requests of late, or Min; those that are too old count no more.
func TestBudget(t *testing.T) {
	c := with(func(c *api.Config, r *api.Route) {
		r.Retries, r.Percent, r.Min, r.Window = 5, 50, 1, 10
		c.Hosts[0].Cap = 9
	})
	s := begin(t, c)
	for conn := 1; conn <= 4; conn++ {
		s.play(open(conn), room(conn, much), came(conn, get))
	}
	// Four requests: two retries.
	s.do(refused(0), "try 1 0 0 1", "open h4 0")
	s.do(refused(4), "try 1 0 0 1", "open h5 0")
	s.do(refused(5), ownLines(1, 0, 503)...)
	s.do(refused(1), ownLines(2, 1, 503)...)
	s.do(tick(9))
	s.do(refused(2), ownLines(3, 2, 503)...)
	s.do(tick(1))
	s.do(refused(3), "try 4 3 0 1", "open h6 0")
	s.do(refused(6), ownLines(4, 3, 503)...)
}

// A breaker opens by failures in a row, of each kind that counts; for Cool ticks nobody is tried, then as many as Probes; by these it closes, or opens again.
func TestBreaker(t *testing.T) {
	c := with(func(c *api.Config, r *api.Route) {
		r.Fails, r.Cool, r.Probes, r.PerTry = 2, 10, 2, 50
		c.Hosts[0].Cap = 9
		c.Clients = 9
	})
	s := begin(t, c)
	for conn := 1; conn <= 6; conn++ {
		s.play(open(conn), room(conn, much), came(conn, get))
	}
	s.do(refused(0), ownLines(1, 0, 503)...)
	// One that is well ends the row.
	s.play(up(1), came(h(1), ok))
	s.play(up(2))
	s.do(came(h(2), bad(500)), "answer 3 2 500 1", "done 3 2", "write 3 "+badBack(500))
	s.play(up(3))
	s.do(reset(h(3)), row([]string{"break 0"}, ownLines(4, 3, 502))...)
	// What was begun ahead of it tells nothing now.
	s.do(refused(4), ownLines(5, 4, 503)...)
	s.do(came(1, get), row([]string{"parsed 1 6 0"}, ownLines(1, 6, 503))...)
	s.do(tick(9))
	s.do(came(1, get), row([]string{"parsed 1 7 0"}, ownLines(1, 7, 503))...)
	s.do(tick(1))
	s.do(came(1, get), "parsed 1 8 0", "admit 1 8 0", "try 1 8 0 0", "write h2 "+onward)
	s.do(came(2, get), "parsed 2 9 0", "admit 2 9 0", "try 2 9 0 0", "write h1 "+onward)
	s.do(came(3, get), row([]string{"parsed 3 10 0"}, ownLines(3, 10, 503))...)
	s.do(came(h(2), ok), "answer 1 8 200 1", "done 1 8", "write 1 "+back)
	s.do(came(3, get), row([]string{"parsed 3 11 0"}, ownLines(3, 11, 503))...)
	s.do(came(h(1), bad(499)), "mend 0", "answer 2 9 499 1", "done 2 9", "write 2 "+badBack(499))
	s.do(came(3, get), "parsed 3 12 0", "admit 3 12 0", "try 3 12 0 0", "write h1 "+onward)
}

// A breaker that is half open opens again by a failure, by one that is late, and by one that is let go before it is known how it went.
func TestBreakerAgain(t *testing.T) {
	c := with(func(c *api.Config, r *api.Route) { r.Fails, r.Cool, r.Probes, r.PerTry = 1, 10, 2, 50; c.Clients = 9 })
	half := func(t *testing.T) *stage {
		s := served(t, c)
		s.play(came(1, get))
		s.do(refused(0), row([]string{"break 0"}, ownLines(1, 0, 503))...)
		s.do(tick(10))
		s.do(came(1, get), "parsed 1 1 0", "admit 1 1 0", "try 1 1 0 0", "open h1 0")
		return s
	}
	again := func(s *stage, req int) {
		s.Helper()
		s.play(open(7), room(7, much))
		s.do(came(7, get), row([]string{fmt.Sprint("parsed 7 ", req, " 0")}, ownLines(7, req, 503))...)
		s.do(tick(10))
		s.do(came(7, get), fmt.Sprint("parsed 7 ", req+1, " 0"), fmt.Sprint("admit 7 ", req+1, " 0"), fmt.Sprint("try 7 ", req+1, " 0 0"), "open h2 0")
	}
	s := half(t)
	s.do(refused(1), row([]string{"break 0"}, ownLines(1, 1, 503))...)
	again(s, 2)
	s = half(t)
	s.do(tick(50), row([]string{"break 0", "close h1"}, ownLines(1, 1, 504))...)
	again(s, 2)
	s = half(t)
	s.do(reset(1), "break 0", "close h1")
	again(s, 2)
	// One whose head is there tells nothing more when its client goes.
	s = half(t)
	s.play(up(1), came(h(1), ok[:len(ok)-1]))
	s.do(reset(1), "close h1")
	s.play(open(7), room(7, much))
	s.do(came(7, get), "parsed 7 2 0", "admit 7 2 0", "try 7 2 0 0", "open h2 0")
	s.play(up(2))
	s.do(came(h(2), ok), "mend 0", "answer 7 2 200 1", "done 7 2", "write 7 "+back)
}

// An attempt that was Busy tells the breaker and the hosts nothing.
func TestBusyIsNoFailure(t *testing.T) {
	s := begin(t, with(func(c *api.Config, r *api.Route) { r.Fails, c.Fails = 1, 1; c.Hosts[0] = api.Host{Name: "a", Cap: 1} }))
	s.play(open(1), open(2), room(2, much), came(1, get))
	s.do(came(2, get), row([]string{"parsed 2 1 0", "admit 2 1 0", "try 2 1 0 0"}, ownLines(2, 1, 503))...)
	s.do(came(2, get), row([]string{"parsed 2 2 0", "admit 2 2 0", "try 2 2 0 0"}, ownLines(2, 2, 503))...)
}

// A hedge or a retry that is found unable to be made when it comes to that fails without being tried.
func TestNotTried(t *testing.T) {
	// The late attempt opens the breaker ahead of the retry that Time made.
	s := sent(t, with(func(c *api.Config, r *api.Route) { r.Fails, r.Retries, r.PerTry = 1, 5, 50 }), get)
	s.do(tick(50), row([]string{"break 0", "close h0"}, ownLines(1, 0, 503))...)
	// It ejects the last host.
	s = sent(t, with(func(c *api.Config, r *api.Route) { c.Fails = 1; r.Retries, r.PerTry = 5, 50 }), get)
	s.do(tick(50), row([]string{"eject 0", "close h0"}, ownLines(1, 0, 503))...)
	// It opens the breaker ahead of the hedge; the other attempt goes on.
	s = sent(t, with(func(c *api.Config, r *api.Route) { r.Fails, r.Hedges, r.HedgeAfter, r.PerTry = 1, 2, 25, 50 }), get)
	s.do(tick(25), "try 1 0 0 2", "open h1 0")
	s.play(up(1))
	s.do(tick(25), "break 0", "close h0")
	s.do(came(h(1), ok), "answer 1 0 200 1", "done 1 0", "write 1 "+back)
}

// Ejection: by failures in a row, as many at one time as the share lets; for the longer the more often; and who may be used meanwhile.
func TestEjection(t *testing.T) {
	c := with(func(c *api.Config, r *api.Route) {
		widen(c, 2)
		c.Fails, c.Share, c.Base, c.Longest, c.Idle = 2, 50, 10, 15, 9000
	})
	s := served(t, c)
	s.do(came(1, get), firstTry()...)
	s.do(refused(0), ownLines(1, 0, 503)...)
	s.do(came(1, get), "parsed 1 1 0", "admit 1 1 0", "try 1 1 0 0", "open h1 0")
	s.play(up(1))
	s.do(came(h(1), bad(500)), "eject 0", "answer 1 1 500 1", "done 1 1", "write 1 "+badBack(500))
	for req := 2; req < 5; req++ {
		s.do(came(1, get), fmt.Sprintf("parsed 1 %d 0", req), fmt.Sprintf("admit 1 %d 0", req), fmt.Sprintf("try 1 %d 1 0", req), fmt.Sprintf("open h%d 1", req))
		s.do(refused(req), ownLines(1, req, 503)...)
	}
	s.do(tick(9))
	s.do(tick(1), "restore 0")
	s.do(came(1, get), "parsed 1 5 0", "admit 1 5 0", "try 1 5 0 0", "write h1 "+onward)
	s.do(reset(h(1)), ownLines(1, 5, 502)...)
	s.do(came(1, get), "parsed 1 6 0", "admit 1 6 0", "try 1 6 0 0", "open h5 0")
	s.do(refused(5), row([]string{"eject 0"}, ownLines(1, 6, 503))...)
	// The second time it would be for 20 ticks, but Longest are 15.
	s.do(tick(100), "@25 restore 0")
}

// Where no host may be used the request is admitted, and answered 503 without being tried.
func TestNoHost(t *testing.T) {
	s := served(t, with(func(c *api.Config, r *api.Route) { c.Fails = 1; r.Retries = 3 }))
	s.play(came(1, get))
	s.do(refused(0), row([]string{"eject 0"}, ownLines(1, 0, 503))...)
	s.do(came(1, get), row([]string{"parsed 1 1 0", "admit 1 1 0"}, ownLines(1, 1, 503))...)
}

// A client that is gone: all attempts of its request are let go, and those of others stay.
func TestClientGone(t *testing.T) {
	c := with(func(c *api.Config, r *api.Route) { widen(c, 3); r.Hedges, r.HedgeAfter = 2, 10 })
	s := sent(t, c, get)
	s.play(tick(20), open(2))
	s.holds(5, 0)
	s.do(reset(1), "close h0", "close h1", "close h2")
	s.holds(1, 0)
	s = sent(t, plain(), get+get)
	s.play(open(2), came(2, get))
	s.do(reset(1), "close h0")
	s.holds(2, 0)
}
