package proxy_test

import (
	"fmt"
	"strings"
	"testing"

	"headrace/api"
)

// probed is the plain configuration with probes.
func probed(set func(c *api.Config, r *api.Route)) api.Config {
	return with(func(c *api.Config, r *api.Route) {
		c.Every, c.Timeout, c.Path = 100, 10, "/p"
		set(c, r)
	})
}

func asIs(*api.Config, *api.Route) {}

const probe = "GET /p HTTP/1.1\r\nHost: a\r\nConnection: close\r\n\r\n"

// 27.1: the probes begin with the first step, whatever its event is, and none with one that is refused; with Every 0 never.
func TestProbesBegin(t *testing.T) {
	for _, e := range []api.Event{tick(0), tick(50), open(1), came(1, get), ends(1), reset(h(0)), up(0), refused(0), ends(h(0)), room(1, 1), draw(1), drain()} {
		s := begin(t, probed(func(c *api.Config, r *api.Route) { widen(c, 2); c.Timeout = 60 }))
		s.refuses(tick(-1))
		s.holds(0, 0)
		want := []string{"open h0 0", "open h1 1"}
		if e.N == 50 {
			want = []string{"@0 open h0 0", "@0 open h1 1"}
		}
		s.do(e, want...)
		s.do(up(1), "write h1 "+strings.Replace(probe, "Host: a", "Host: b", 1))
		s.do(up(0), "write h0 "+probe)
	}
	s := begin(t, plain())
	s.do(tick(10000))
	s.holds(0, 0)
}

// A probe that ends well: by a whole response of a status below 400; the next one comes Every ticks behind it.
func TestProbeWell(t *testing.T) {
	for _, x := range []struct {
		text  string
		byEnd bool
	}{
		{"HTTP/1.1 200 OK\r\nContent-Length: 2\r\n\r\nab", false},
		{"HTTP/1.1 399 \r\nContent-Length: 0\r\n\r\n", false},
		{"HTTP/1.1 204 X\r\n\r\n", false},
		{"HTTP/1.1 103 X\r\n\r\nHTTP/1.0 301 X\r\n\r\nabc", true},
		{"HTTP/1.1 200 OK\r\nTransfer-Encoding: chunked\r\n\r\n1\r\na\r\n0\r\n\r\n", false},
		{"HTTP/1.1 200 OK\r\n\r\n" + strings.Repeat("x", 9000), true},
	} {
		for _, size := range []int{3, len(x.text)} {
			s := begin(t, probed(asIs))
			s.do(tick(3), "@0 open h0 0")
			s.holds(1, 0)
			s.do(came(h(0), "HTTP/1.1"))
			s.do(up(0), "write h0 "+probe)
			for i := 0; i < len(x.text)-size; i += size {
				s.do(came(h(0), x.text[i:i+size]))
			}
			last := came(h(0), x.text[len(x.text)-size:])
			if x.byEnd {
				s.do(last)
				last = ends(h(0))
			}
			s.do(last, "close h0")
			s.holds(0, 0)
			for _, e := range []api.Event{last, up(0), refused(0), reset(h(0))} {
				s.do(e)
			}
			s.do(tick(99))
			s.do(tick(1), "open h1 0")
		}
	}
}

// badly are the ways in which the probe of the n-th connection ends badly, and what is done by it.
func badly(n int) map[string]struct {
	l    []api.Event
	done []string
} {
	type row = struct {
		l    []api.Event
		done []string
	}
	closed := []string{fmt.Sprint("close h", n)}
	return map[string]row{
		"refused":                  {[]api.Event{refused(n)}, nil},
		"reset while it opens":     {[]api.Event{reset(h(n))}, nil},
		"ended while it opens":     {[]api.Event{ends(h(n))}, closed},
		"reset":                    {[]api.Event{up(n), reset(h(n))}, nil},
		"reset in the body":        {[]api.Event{up(n), came(h(n), ok[:len(ok)-1]), reset(h(n))}, nil},
		"reset ahead of the end":   {[]api.Event{up(n), came(h(n), "HTTP/1.1 200 OK\r\n\r\nab"), reset(h(n))}, nil},
		"ended":                    {[]api.Event{up(n), ends(h(n))}, closed},
		"ended in the body":        {[]api.Event{up(n), came(h(n), ok[:len(ok)-1]), ends(h(n))}, closed},
		"wrong":                    {[]api.Event{up(n), came(h(n), "\n")}, closed},
		"too large":                {[]api.Event{up(n), came(h(n), strings.Repeat("x", 401))}, closed},
		"wrong body":               {[]api.Event{up(n), came(h(n), "HTTP/1.1 200 X\r\nTransfer-Encoding: chunked\r\n\r\nx\r\n")}, closed},
		"400":                      {[]api.Event{up(n), came(h(n), bad(400))}, closed},
		"503":                      {[]api.Event{up(n), came(h(n), bad(503))}, closed},
		"404 by its end":           {[]api.Event{up(n), came(h(n), "HTTP/1.1 404 X\r\n\r\n"), ends(h(n))}, closed},
		"late while it opens":      {[]api.Event{tick(9), tick(1)}, closed},
		"late":                     {[]api.Event{tick(1), up(n), tick(8), tick(1)}, closed},
		"late in the body":         {[]api.Event{up(n), came(h(n), ok[:len(ok)-1]), tick(9), tick(1)}, closed},
		"late by a bit of its end": {[]api.Event{up(n), came(h(n), "HTTP/1.1 200 OK\r\n\r\nab"), tick(9), tick(1)}, closed},
	}
}

// A probe that ends badly: Down of them in a row make the host unhealthy, Up good ones healthy again.
func TestProbeBadly(t *testing.T) {
	for name, first := range badly(0) {
		second := badly(1)[name]
		t.Run(name, func(t *testing.T) {
			s := begin(t, probed(func(c *api.Config, r *api.Route) { c.Up, c.Down = 2, 2 }))
			s.do(tick(0), "open h0 0")
			ended := func(l []api.Event, want ...string) {
				t.Helper()
				s.play(l[:len(l)-1]...)
				s.do(l[len(l)-1], want...)
				s.holds(0, 0)
				s.do(tick(99))
			}
			ended(first.l, first.done...)
			s.do(tick(1), "open h1 0")
			ended(second.l, row(second.done, []string{"down 0"})...)
			s.do(tick(1), "open h2 0")
			s.play(up(2))
			s.do(came(h(2), ok), "close h2")
			s.do(tick(99))
			s.do(tick(1), "open h3 0")
			s.play(up(3))
			s.do(came(h(3), ok), "close h3", "healthy 0")
		})
	}
}

// A bad answer ends the row of good ones.
func TestProbeRows(t *testing.T) {
	s := begin(t, probed(func(c *api.Config, r *api.Route) { c.Up, c.Down = 2, 1 }))
	s.play(tick(0))
	for n, x := range []struct {
		answer string
		done   []string
	}{{bad(500), []string{"down 0"}}, {ok, nil}, {bad(500), nil}, {ok, nil}, {ok, []string{"healthy 0"}}, {ok, nil}} {
		s.play(up(n))
		s.do(came(h(n), x.answer), row([]string{fmt.Sprint("close h", n)}, x.done)...)
		s.do(tick(100), fmt.Sprintf("open h%d 0", n+1))
	}
}

// A host that is unhealthy is not tried; what runs on it goes on. A probe's connection is one beside Cap.
func TestUnhealthy(t *testing.T) {
	s := begin(t, probed(func(c *api.Config, r *api.Route) {
		c.Hosts[0] = api.Host{Name: "a", Cap: 1}
		c.Every = 1
		c.Timeout = 10
	}))
	s.do(open(1), "open h0 0")
	s.play(room(1, much), open(2), room(2, much))
	s.do(came(1, get), "parsed 1 0 0", "admit 1 0 0", "try 1 0 0 0", "open h1 0")
	s.holds(4, 0)
	s.do(refused(0), "down 0")
	s.do(came(2, get), row([]string{"parsed 2 1 0", "admit 2 1 0"}, ownLines(2, 1, 503))...)
	s.do(up(1), "write h1 "+onward)
	s.do(came(h(1), ok), "answer 1 0 200 1", "done 1 0", "write 1 "+back)
	s.do(tick(1), "open h2 0")
	s.play(up(2))
	s.do(came(h(2), ok), "close h2", "healthy 0")
	s.do(came(2, get), "parsed 2 2 0", "admit 2 2 0", "try 2 2 0 0", "write h1 "+onward)
}

// Probes go on while the proxy drains, and tell a breaker, a score and the ejection nothing.
func TestProbesAlone(t *testing.T) {
	s := begin(t, probed(func(c *api.Config, r *api.Route) { c.Down = 100; c.Fails, r.Fails = 1, 1 }))
	s.do(drain(), "open h0 0")
	for n := range 5 {
		s.do(refused(n))
		s.do(tick(99))
		s.do(tick(1), fmt.Sprintf("open h%d 0", n+1))
	}
}

// Probes and pools have one row of numbers.
func TestProbeNumbers(t *testing.T) {
	s := begin(t, probed(func(c *api.Config, r *api.Route) { widen(c, 2); c.Every = 5 }))
	s.do(open(1), "open h0 0", "open h1 1")
	s.play(room(1, much))
	s.do(came(1, get), "parsed 1 0 0", "admit 1 0 0", "try 1 0 0 0", "open h2 0")
	s.do(refused(0), "down 0")
	s.do(tick(5), "open h3 0")
	s.do(up(2), "write h2 "+onward)
	s.do(up(3), "write h3 "+probe)
	s.do(reset(h(3)))
	s.do(came(h(2), ok), "answer 1 0 200 1", "done 1 0", "write 1 "+back)
	s.do(ends(h(2)), "close h2")
	s.holds(2, 0)
}

// A path as long as a line may be is asked for as it is.
func TestProbeLongPath(t *testing.T) {
	path := "/" + strings.Repeat("x", api.MaxLine-1)
	s := begin(t, probed(func(c *api.Config, r *api.Route) { c.Path = path }))
	s.play(tick(0))
	s.do(up(0), "write h0 GET "+path+" HTTP/1.1\r\nHost: a\r\nConnection: close\r\n\r\n")
}
