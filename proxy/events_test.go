package proxy_test

import (
	"math"
	"strings"
	"testing"

	"headrace/api"
	"headrace/proxy"
)

// 27.1: a configuration that is not right.
func TestNew(t *testing.T) {
	for name, set := range map[string]func(c *api.Config, r *api.Route){
		"no hosts":    func(c *api.Config, r *api.Route) { c.Hosts = nil },
		"no routes":   func(c *api.Config, r *api.Route) { c.Routes = nil },
		"a host more": func(c *api.Config, r *api.Route) { r.Hosts = []int{1} },
		"Per 0":       func(c *api.Config, r *api.Route) { r.Per = 0 },
		"Clients 0":   func(c *api.Config, r *api.Route) { c.Clients = 0 },
		"Clients 257": func(c *api.Config, r *api.Route) { c.Clients = 257 },
		"no path":     func(c *api.Config, r *api.Route) { c.Every = 1 },
	} {
		if p, e := proxy.New(with(set)); p != nil || e != api.ErrConfig {
			t.Errorf("%s: %v, %v", name, p, e)
		}
	}
	if p, e := proxy.New(api.Config{}); p != nil || e != api.ErrConfig {
		t.Errorf("none: %v, %v", p, e)
	}
	s := begin(t, plain())
	s.holds(0, 0)
	if n := s.p.Now(); n != 0 {
		t.Errorf("Now: %d", n)
	}
}

// 27.1, R6: a nil proxy, and one that New did not make.
func TestNoProxy(t *testing.T) {
	for _, p := range []*proxy.Proxy{nil, {}} {
		for _, e := range []api.Event{{}, {Kind: 11}, tick(0), tick(-1), tick(5), open(1), open(-1), came(1, get), ends(1), reset(h(0)), up(0), refused(0), room(1, 1), draw(0), drain()} {
			if acts, err := p.Step(e); len(acts) != 0 || err != api.ErrState {
				t.Errorf("%v: %v, %v", e, acts, err)
			}
			if c, b := p.Held(); c != 0 || b != 0 || p.Now() != 0 {
				t.Errorf("%d, %d, %d", c, b, p.Now())
			}
		}
	}
}

// 27.1: each kind of event with its numbers at their bounds and beyond; what a kind does not name is not looked at.
func TestWrongEvents(t *testing.T) {
	s := begin(t, plain())
	long := make([]byte, api.MaxBytes+1)
	for _, kind := range []int{0, -1, 11, math.MinInt, math.MaxInt} {
		s.refuses(api.Event{Kind: kind})
	}
	for _, n := range []int{-1, proxy.MaxSkip + 1, math.MinInt, math.MaxInt} {
		s.refuses(tick(n))
	}
	for _, n := range []int{-1, 1 << 32, math.MinInt, math.MaxInt} {
		s.refuses(draw(n))
	}
	for _, conn := range []int{-1, math.MinInt} {
		for _, kind := range []int{api.EvOpen, api.EvBytes, api.EvEnd, api.EvReset, api.EvUp, api.EvRefused, api.EvRoom} {
			s.refuses(api.Event{Kind: kind, Conn: conn})
		}
		s.refuses(room(1, conn))
	}
	s.refuses(api.Event{Kind: api.EvBytes, Conn: 1, Bytes: long})
	s.refuses(api.Event{Kind: api.EvBytes, Conn: h(0), Bytes: long})

	s.do(api.Event{Kind: api.EvTick, Conn: -1, Bytes: long})
	s.do(api.Event{Kind: api.EvDraw, Conn: -1, N: 1<<32 - 1, Bytes: long})
	s.do(api.Event{Kind: api.EvRoom, Conn: 9, N: math.MaxInt, Bytes: long})
	for _, kind := range []int{api.EvEnd, api.EvReset, api.EvUp, api.EvRefused} {
		s.do(api.Event{Kind: kind, Conn: math.MaxInt, N: -1, Bytes: long})
	}
	s.do(api.Event{Kind: api.EvOpen, Conn: 0, N: -1, Bytes: long})
	s.do(api.Event{Kind: api.EvBytes, Conn: 0, N: -1})
	s.holds(1, 0)
	s.do(api.Event{Kind: api.EvDrain, Conn: -1, N: -1, Bytes: long}, "close 0")
}

// The layer's limits.
func TestLimits(t *testing.T) {
	if proxy.Base != 1<<20 || proxy.MaxSkip != 10000 {
		t.Errorf("%d, %d", proxy.Base, proxy.MaxSkip)
	}
}

// 27.1: EvTick of 0, 1, MaxSkip and one fewer; what is refused leaves the moment.
func TestTicks(t *testing.T) {
	s := begin(t, plain())
	now := 0
	for _, n := range []int{0, 1, proxy.MaxSkip, proxy.MaxSkip - 1, 0} {
		s.do(tick(n))
		now += n
		if s.p.Now() != now {
			t.Errorf("Now: %d; want %d", s.p.Now(), now)
		}
		s.refuses(tick(proxy.MaxSkip + 1))
	}
}

// EvBytes of none, and of MaxBytes.
func TestManyBytes(t *testing.T) {
	s := served(t, with(func(c *api.Config, r *api.Route) { c.MaxHead, c.MaxBody = api.MaxHead, api.MaxBytes }))
	s.do(came(1, ""))
	s.do(came(1, "POST / HTTP/1.1\r\nHost: h\r\nContent-Length: 1048576\r\n\r\n"))
	body := strings.Repeat("x", api.MaxBytes)
	s.do(came(1, body), firstTry()...)
	s.holds(2, api.MaxBytes)
	s.do(up(0), "write h0 POST / HTTP/1.1\r\nHost: h\r\nContent-Length: 1048576\r\nVia: 1.1 headrace\r\n\r\n"+body)
	s.do(came(h(0), ""))
	s.do(came(1, ""))
}

// EvOpen: a number opens once, from 0 to Base - 1.
func TestOpensOnce(t *testing.T) {
	s := begin(t, with(func(c *api.Config, r *api.Route) { c.Clients = 3 }))
	for i, n := range []int{0, base - 1, 7} {
		s.do(open(n))
		s.holds(i+1, 0)
		s.do(open(n))
		s.holds(i+1, 0)
	}
	s.do(open(base))
	s.do(open(base + 7))
	s.holds(3, 0)
	// One more than Clients is closed, and its number was one.
	s.do(open(8), "close 8")
	s.do(open(8))
	s.holds(3, 0)
	s.do(reset(7))
	s.holds(2, 0)
	s.do(open(8))
	s.do(open(7))
	s.do(came(7, get))
	s.do(came(8, get))
	s.holds(2, 0)
	s.do(open(9))
	s.holds(3, 0)
	s.do(ends(9), "close 9")
	s.do(open(9))
	s.holds(2, 0)
}

// What is said of a connection that is not there, or not of that side, is nothing.
func TestNobody(t *testing.T) {
	s := sent(t, plain(), get)
	s.play(open(2))
	conns, bytes := s.p.Held()
	all := func(conn int) []api.Event {
		return []api.Event{came(conn, "x"), came(conn, get), ends(conn), reset(conn), {Kind: api.EvUp, Conn: conn}, {Kind: api.EvRefused, Conn: conn}, room(conn, 5)}
	}
	for _, conn := range []int{0, 3, base - 1, h(1), h(1000), math.MaxInt} {
		for _, e := range all(conn) {
			s.do(e)
			s.holds(conns, bytes)
		}
	}
	// Those of hosts' connections, of clients; of clients, of hosts' connections.
	for _, kind := range []int{api.EvUp, api.EvRefused} {
		s.do(api.Event{Kind: kind, Conn: 1})
		s.do(api.Event{Kind: kind, Conn: 2})
	}
	s.do(room(h(0), 5))
	s.do(open(h(0)))
	s.holds(conns, bytes)
	// Nor was anybody there by that, or had room.
	s.do(open(3))
	s.do(came(3, "\n"), "answer 3 -1 400 0")
	s.do(reset(2))
	for _, e := range all(2) {
		s.do(e)
	}
	s.do(came(h(0), ok), "answer 1 0 200 1", "done 1 0", "write 1 "+back)
}

// Each event for a host's connection that opens.
func TestWhileOpens(t *testing.T) {
	opened := func(t *testing.T) *stage {
		s := served(t, plain())
		s.do(came(1, get), firstTry()...)
		s.holds(2, 0)
		s.do(came(h(0), ok))
		s.do(room(h(0), 9))
		s.do(open(h(0)))
		s.holds(2, 0)
		return s
	}
	s := opened(t)
	s.do(up(0), "write h0 "+onward)
	s.do(came(h(0), ok), "answer 1 0 200 1", "done 1 0", "write 1 "+back)
	s = opened(t)
	s.do(refused(0), ownLines(1, 0, 503)...)
	s.holds(1, 0)
	s = opened(t)
	s.do(reset(h(0)), ownLines(1, 0, 503)...)
	s.holds(1, 0)
	s = opened(t)
	s.do(ends(h(0)), row([]string{"close h0"}, ownLines(1, 0, 503))...)
	s.holds(1, 0)
	for _, e := range []api.Event{up(0), refused(0), reset(h(0)), ends(h(0)), came(h(0), ok)} {
		s.do(e)
	}
}

// Each event for a host's connection that works, in the midst of its answer.
func TestWhileWorks(t *testing.T) {
	working := func(t *testing.T) *stage {
		s := sent(t, plain(), get)
		s.do(up(0))
		s.do(refused(0))
		s.do(room(h(0), 9))
		s.do(came(h(0), ok[:len(ok)-1]), "answer 1 0 200 1", "write 1 "+back[:len(back)-1])
		s.do(up(0))
		s.do(refused(0))
		s.do(came(h(0), ""))
		s.holds(2, 0)
		return s
	}
	s := working(t)
	s.do(came(h(0), "b"), "done 1 0", "write 1 b")
	s.holds(2, 0)
	s = working(t)
	s.do(ends(h(0)), "close h0", "close 1")
	s.holds(0, 0)
	s = working(t)
	s.do(reset(h(0)), "close 1")
	s.holds(0, 0)
	s = working(t)
	s.do(reset(1), "close h0")
	s.holds(0, 0)
}

// Each event for a host's connection that rests.
func TestWhileRests(t *testing.T) {
	resting := func(t *testing.T) *stage {
		s := sent(t, plain(), get)
		s.do(came(h(0), ok), "answer 1 0 200 1", "done 1 0", "write 1 "+back)
		s.do(up(0))
		s.do(refused(0))
		s.do(came(h(0), ""))
		s.do(room(h(0), 9))
		s.holds(2, 0)
		return s
	}
	again := []string{"parsed 1 1 0", "admit 1 1 0", "try 1 1 0 0"}
	s := resting(t)
	s.do(came(1, get), row(again, []string{"write h0 " + onward})...)
	for _, x := range []struct {
		e    api.Event
		want []string
	}{{came(h(0), "x"), []string{"close h0"}}, {ends(h(0)), []string{"close h0"}}, {reset(h(0)), nil}} {
		s = resting(t)
		s.do(x.e, x.want...)
		s.holds(1, 0)
		s.do(came(1, get), row(again, []string{"open h1 0"})...)
	}
}

// Each event for a host's connection that has ended, while bytes wait to be read.
func TestWhileEnded(t *testing.T) {
	ended := func(t *testing.T) *stage {
		s := begin(t, with(func(c *api.Config, r *api.Route) { c.MaxOut = 1 }))
		s.play(open(1), came(1, get), up(0))
		s.do(came(h(0), ok[:len(ok)-2]), "answer 1 0 200 1")
		s.do(came(h(0), "a"))
		s.do(ends(h(0)))
		s.do(up(0))
		s.do(refused(0))
		// It ended: these come too late.
		s.do(came(h(0), "b"))
		s.do(ends(h(0)))
		s.holds(2, len(back)-2)
		return s
	}
	s := ended(t)
	s.do(room(1, much), "write 1 "+back[:len(back)-2], "write 1 a", "close h0", "close 1")
	s = ended(t)
	s.do(reset(h(0)))
	s.do(room(1, much), "write 1 "+back[:len(back)-2], "close 1")
	s = ended(t)
	s.do(reset(1), "close h0")
}

// A client that has ended sends nothing more.
func TestClientEnded(t *testing.T) {
	s := sent(t, plain(), get)
	s.do(ends(1))
	s.do(came(1, get))
	s.do(ends(1))
	s.do(came(h(0), ok), "answer 1 0 200 1", "done 1 0", "write 1 "+back, "close 1")
}

// EvRoom: of 0, of less than there is to write, and of MaxBytes at most in all.
func TestRoom(t *testing.T) {
	s := begin(t, with(func(c *api.Config, r *api.Route) { c.MaxOut = api.MaxBytes }))
	s.play(open(1), open(2), came(1, get), up(0))
	s.do(room(1, 0))
	s.do(came(h(0), ok), "answer 1 0 200 1", "done 1 0")
	s.holds(3, len(back))
	s.do(room(1, 0))
	for i := range len(back) - 3 {
		s.do(room(1, 1), "write 1 "+back[i:i+1])
		s.holds(3, len(back)-i-1)
	}
	s.do(room(1, 9), "write 1 "+back[len(back)-3:])
	s.holds(3, 0)
	// Six bytes of room are left, and then MaxBytes and no more.
	s.do(room(1, api.MaxBytes))
	s.do(room(1, 1))
	s.do(room(1, math.MaxInt))
	body := strings.Repeat("x", 1200000)
	s.do(came(1, get), "parsed 1 1 0", "admit 1 1 0", "try 1 1 0 0", "write h0 "+onward)
	s.play(came(h(0), "HTTP/1.1 200 OK\r\nContent-Length: 1200000\r\n\r\n"), came(h(0), body[:api.MaxBytes]), came(h(0), body[api.MaxBytes:]))
	n := 0
	for _, x := range s.steps[len(s.steps)-3:] {
		for _, a := range x.Acts {
			n += len(a.Bytes)
		}
	}
	if n != api.MaxBytes {
		t.Errorf("%d bytes of room", n)
	}
	// What one has is not another one's.
	s.do(came(2, "\n"), "answer 2 -1 400 0")
}

// EvDraw: MaxDraws wait, and no more.
func TestMostDraws(t *testing.T) {
	c := with(func(c *api.Config, r *api.Route) {
		widen(c, 3)
		r.Burst, r.Rate = 1000000, 0
		c.Clients = 9
	})
	p, _ := proxy.New(c)
	step := func(e api.Event) []api.Act {
		acts, err := p.Step(e)
		if err != api.OK {
			t.Fatal(err)
		}
		return acts
	}
	tries := func(conn, n int) []int {
		var hosts []int
		step(room(conn, api.MaxBytes))
		for _, a := range step(came(conn, strings.Repeat(get, n))) {
			if a.Kind == api.AcTry {
				hosts = append(hosts, a.Host)
			}
		}
		return hosts
	}
	// All hosts are full: whom the draws tell is tried, and answered 503 at once.
	for conn := range 4 {
		step(open(conn))
	}
	for conn, d := range []int{0, 1, 2} {
		step(draw(d))
		step(draw(d))
		tries(conn, 1)
	}
	for range api.MaxDraws {
		step(draw(1))
	}
	step(draw(2))
	for i, host := range tries(3, api.MaxDraws/2) {
		if host != 1 {
			t.Fatalf("try %d: host %d", i, host)
		}
	}
	// Were the one that was too many there, they would be 2 and 1.
	step(draw(1))
	if l := tries(3, 1); len(l) != 1 || l[0] != 0 {
		t.Errorf("%v", l)
	}
}

// EvDrain: who comes is closed, who rests too, others when they are answered.
func TestDrain(t *testing.T) {
	s := begin(t, with(func(c *api.Config, r *api.Route) { c.Hosts[0].Cap = 4 }))
	for conn := range 4 {
		s.do(open(conn))
		s.do(room(conn, much))
	}
	s.play(came(1, get), up(0))
	s.do(came(2, get[:5]))
	s.do(came(3, "\n"), turned(3, 400)...)
	s.do(drain(), "close 0")
	s.do(drain())
	s.do(open(9), "close 9")
	s.do(open(9))
	s.holds(3, 0)
	s.do(came(h(0), ok), "answer 1 0 200 1", "done 1 0", "write 1 "+back, "close 1")
	// One that had begun is read on, and is not kept.
	s.do(came(2, get[5:]), "parsed 2 1 0", "admit 2 1 0", "try 2 1 0 0", "write h0 "+onward)
	s.do(came(h(0), ok), "answer 2 1 200 1", "done 2 1", "write 2 HTTP/1.1 200 OK\r\nContent-Length: 2\r\nVia: 1.1 headrace\r\nConnection: close\r\n\r\nab", "close 2")
	s.holds(1, 0)
	s.do(tick(9))
	s.do(draw(1))
	s.do(room(2, 1))
	s.do(ends(h(0)), "close h0")
	s.holds(0, 0)
}

// While it drains, what was begun goes on as ever, until its client is closed.
func TestDrainGoesOn(t *testing.T) {
	start := func() *stage {
		s := served(t, with(func(c *api.Config, r *api.Route) { r.Retries, r.PerTry = 1, 50 }))
		s.do(came(1, get), firstTry()...)
		s.do(drain())
		s.do(room(1, 0))
		s.do(open(2), "close 2")
		return s
	}
	again := []string{"try 1 0 0 1", "open h1 0"}
	s := start()
	s.do(refused(0), again...)
	s.do(refused(1), row(ownLines(1, 0, 503), []string{"close 1"})...)
	s.holds(0, 0)
	s = start()
	s.do(ends(h(0)), row([]string{"close h0"}, again)...)
	s.do(reset(h(1)), row(ownLines(1, 0, 503), []string{"close 1"})...)
	s = start()
	s.do(tick(50), row([]string{"close h0"}, again)...)
	s.do(tick(50), row([]string{"close h1"}, ownLines(1, 0, 504), []string{"close 1"})...)
	s = start()
	s.do(reset(1), "close h0")
	s.holds(0, 0)
	s = start()
	s.do(ends(1))
	s.do(up(0), "write h0 "+onward)
	s.do(came(h(0), ok), "answer 1 0 200 1", "done 1 0", "write 1 "+back, "close 1")
	s.do(came(h(0), "x"), "close h0")
}

// While it drains: who has bytes that wait to be read or to be written is not closed yet.
func TestDrainWaits(t *testing.T) {
	s := begin(t, with(func(c *api.Config, r *api.Route) { c.MaxOut = 5; r.Prefix = "/a" }))
	s.play(open(1), open(2))
	s.do(came(1, get+get), "parsed 1 0 -1", "answer 1 0 404 0", "done 1 0")
	s.do(came(2, get), "parsed 2 1 -1", "answer 2 1 404 0", "done 2 1")
	s.do(drain())
	text := own(404, "")
	s.do(room(2, len(text)-1), "write 2 "+text[:len(text)-1])
	s.do(room(2, 1), "write 2 \n", "close 2")
	s.do(room(1, much), "write 1 "+text, "parsed 1 2 -1", "answer 1 2 404 0", "done 1 2", "write 1 "+own(404, "close"), "close 1")
}

// While it drains, what a request has begun is late as ever.
func TestDrainLate(t *testing.T) {
	s := served(t, plain())
	s.do(came(1, "GET"))
	s.do(drain())
	s.do(tick(s.c.HeadTime - 1))
	s.do(tick(1), turned(1, 408)...)
}

// R3: what is handed in may be changed behind a call, and what is told too.
func TestShares(t *testing.T) {
	c := with(func(c *api.Config, r *api.Route) { r.Methods = []string{"GET"} })
	p, _ := proxy.New(c)
	c.Hosts[0].Cap, c.Routes[0].Prefix, c.Routes[0].Methods[0], c.Routes[0].Hosts[0] = 0, "/x", "PUT", 5
	play := func(e api.Event) string {
		acts, err := p.Step(e)
		if err != api.OK {
			t.Fatal(err)
		}
		for i := range e.Bytes {
			e.Bytes[i] = 0
		}
		text := ""
		for _, a := range acts {
			text += string(a.Bytes)
			for i := range a.Bytes[:cap(a.Bytes)] {
				a.Bytes[:cap(a.Bytes)][i] = 0
			}
		}
		clear(acts[:cap(acts)])
		return text
	}
	play(open(1))
	play(room(1, 5))
	play(came(1, get[:9]))
	play(came(1, get[9:]))
	if s := play(up(0)); s != onward {
		t.Errorf("%q", s)
	}
	got := play(came(h(0), ok[:20])) + play(came(h(0), ok[20:]))
	for range len(back) {
		got += play(room(1, 1))
	}
	if got != back {
		t.Errorf("%q", got)
	}
}
