package proxy_test

import (
	"strings"
	"testing"

	"headrace/api"
)

// HeadTime: a tick ahead, at it and behind; of what begins by a byte, by an empty line, in a head and in a body.
func TestHeadTime(t *testing.T) {
	for _, text := range []string{"G", "\r\n", get[:len(get)-1], post[:len(post)-3], post[:len(post)-1]} {
		start := func() *stage {
			s := served(t, plain())
			s.do(tick(100))
			s.do(came(1, text[:1]))
			s.do(tick(50))
			s.do(came(1, text[1:]))
			return s
		}
		s := start()
		s.do(tick(2949))
		s.do(tick(1), turned(1, 408)...)
		s = start()
		s.do(tick(5000), "@3100 answer 1 -1 408 0", "@3100 write 1 "+own(408, "close"), "@3100 close 1")
		// One that is whole in time is not late.
		if strings.HasPrefix(post, text) {
			s = start()
			s.play(tick(2949), came(1, post[len(text):]))
			if s.last().Kind != api.AcOpen {
				t.Errorf("%q: %v", text, s.last())
			}
		}
	}
	// Who has begun nothing may take any time.
	s := served(t, plain())
	s.do(tick(10000))
	s.do(came(1, get), firstTry()...)
}

// HeadTime of a request behind another one: since its own bytes are read.
func TestHeadTimeBehind(t *testing.T) {
	c := with(func(c *api.Config, r *api.Route) { c.HeadTime = 1500 })
	s := sent(t, c, get+"GE")
	s.do(tick(1499))
	s.do(came(h(0), ok), "answer 1 0 200 1", "done 1 0", "write 1 "+back)
	s.do(tick(1499))
	s.do(tick(1), row([]string{"answer 1 -1 408 0", "write 1 " + own(408, "close"), "close 1"})...)

	// Begun again behind one that came in time.
	s = sent(t, c, get)
	s.play(came(h(0), ok))
	s.do(came(1, get[:5]))
	s.do(tick(1499))
	s.do(came(1, get[5:]+get[:5]), "parsed 1 1 0", "admit 1 1 0", "try 1 1 0 0", "write h0 "+onward)
	s.do(came(h(0), ok), "answer 1 1 200 1", "done 1 1", "write 1 "+back)
	s.do(tick(1499))
	s.do(tick(1), turned(1, 408)...)
}

// A late client without room: it is answered once, and closed behind that.
func TestHeadTimeNoRoom(t *testing.T) {
	s := begin(t, plain())
	s.play(open(1), came(1, "G"))
	s.do(tick(3000), "answer 1 -1 408 0")
	s.do(tick(9000))
	s.do(came(1, get[1:]))
	s.do(room(1, much), "write 1 "+own(408, "close"), "close 1")
}

// PerTry: a tick ahead, at it and behind.
func TestPerTry(t *testing.T) {
	c := with(func(c *api.Config, r *api.Route) { r.PerTry, r.Retries = 50, 1 })
	start := func() *stage {
		s := served(t, c)
		s.play(tick(7), came(1, get), up(0))
		return s
	}
	s := start()
	s.do(tick(49))
	s.do(came(h(0), ok), "answer 1 0 200 1", "done 1 0", "write 1 "+back)
	s = start()
	s.do(tick(49))
	s.do(tick(1), "close h0", "try 1 0 0 1", "open h1 0")
	s.do(tick(49))
	s.do(tick(1), row([]string{"close h1"}, ownLines(1, 0, 504))...)
	s = start()
	s.do(tick(1000), "@57 close h0", "@57 try 1 0 0 1", "@57 open h1 0", "@107 close h1", "@107 answer 1 0 504 0", "@107 done 1 0", "@107 write 1 "+own(504, ""))
}

// 27.5: Total, a tick ahead, at it and behind; all that run are let go, and the breaker and the hosts are told.
func TestTotal(t *testing.T) {
	c := with(func(c *api.Config, r *api.Route) {
		widen(c, 3)
		r.Total, r.Hedges, r.HedgeAfter, r.Fails, r.Cool = 90, 2, 10, 3, 500
		c.Fails, c.Base, c.Longest = 1, 500, 500
	})
	start := func() *stage {
		s := served(t, c)
		s.play(tick(7), came(1, get), up(0))
		return s
	}
	s := start()
	s.do(tick(89), "@17 try 1 0 1 2", "@17 open h1 1", "@27 try 1 0 2 2", "@27 open h2 2")
	s.do(tick(1), row([]string{"eject 0", "close h0", "eject 1", "close h1", "break 0", "eject 2", "close h2"}, ownLines(1, 0, 504))...)
	s = start()
	s.play(tick(89))
	s.do(came(h(0), ok), "close h1", "close h2", "answer 1 0 200 1", "done 1 0", "write 1 "+back)
	// An answer that has begun is not cut by time.
	s = start()
	s.do(came(h(0), ok[:len(ok)-2]), "answer 1 0 200 1", "write 1 "+back[:len(back)-2])
	s.do(tick(9000))
	s.do(came(h(0), "ab"), "close h0", "done 1 0", "write 1 ab")
}

// 27.9: hosts that answer nothing: 504 at Total, whatever was tried until then.
func TestTotalOfRetries(t *testing.T) {
	s := sent(t, with(func(c *api.Config, r *api.Route) { r.Total, r.PerTry, r.Retries = 90, 40, 5 }), get)
	s.do(tick(1000),
		"@40 close h0", "@40 try 1 0 0 1", "@40 open h1 0",
		"@80 close h1", "@80 try 1 0 0 1", "@80 open h2 0",
		"@90 close h2", "@90 answer 1 0 504 0", "@90 done 1 0", "@90 write 1 "+own(504, ""))
}

// HedgeAfter: a tick ahead, at it and behind.
func TestHedgeAfter(t *testing.T) {
	c := with(func(c *api.Config, r *api.Route) { r.Hedges, r.HedgeAfter = 1, 10 })
	s := sent(t, c, get)
	s.do(tick(9))
	s.do(came(h(0), ok), "answer 1 0 200 1", "done 1 0", "write 1 "+back)
	s = sent(t, c, get)
	s.do(tick(9))
	s.do(tick(1), "try 1 0 0 2", "open h1 0")
	s = sent(t, c, get)
	s.do(tick(1000), "@10 try 1 0 0 2", "@10 open h1 0")
}

// A resting connection is closed when it rested Idle ticks, or is Life ticks old; who would use it then gets another one.
func TestIdleAndLife(t *testing.T) {
	c := with(func(c *api.Config, r *api.Route) { c.Idle, c.Life = 20, 50 })
	resting := func() *stage {
		s := sent(t, c, get)
		s.play(tick(5), came(h(0), ok))
		return s
	}
	s := resting()
	s.do(tick(19))
	s.do(came(1, get), "parsed 1 1 0", "admit 1 1 0", "try 1 1 0 0", "write h0 "+onward)
	s.do(tick(10))
	s.do(came(h(0), ok), "answer 1 1 200 1", "done 1 1", "write 1 "+back)
	s.holds(2, 0)
	s.do(tick(15))
	s.do(tick(1), "close h0")
	s.holds(1, 0)
	s.do(came(1, get), "parsed 1 2 0", "admit 1 2 0", "try 1 2 0 0", "open h1 0")
	s = resting()
	s.do(tick(1000), "@25 close h0")
	// One that is too old when its work is done does not rest.
	s = sent(t, c, get)
	s.do(tick(49))
	s.do(tick(1))
	s.do(came(h(0), ok), "answer 1 0 200 1", "close h0", "done 1 0", "write 1 "+back)
}

// What is due at one moment comes in its order: hosts, pools, probes, heads, attempts; and what is due later, later.
func TestOrderOfTime(t *testing.T) {
	c := with(func(c *api.Config, r *api.Route) {
		widen(c, 2)
		c.Hosts[0].Cap = 2
		c.Every, c.Timeout, c.Path = 1000, 60, "/p"
		c.Fails, c.Base, c.Longest = 1, 60, 60
		c.HeadTime, c.Idle = 60, 60
		r.Hosts, r.PerTry = []int{0}, 60
	})
	s := begin(t, c)
	s.do(tick(0), "open h0 0", "open h1 1")
	for conn := 1; conn <= 3; conn++ {
		s.play(open(conn), room(conn, much))
	}
	s.play(came(1, get), came(2, get), up(2), up(3))
	s.play(came(3, "G"))
	s.do(came(h(2), ok), "answer 1 0 200 1", "done 1 0", "write 1 "+back)
	s.play(came(1, "G"))
	s.do(tick(30))
	s.do(tick(30), row(
		[]string{"close h2", "close h0", "down 0", "close h1", "down 1"},
		[]string{"answer 1 -1 408 0", "answer 3 -1 408 0"},
		[]string{"eject 0", "close h3", "answer 2 1 504 0", "done 2 1"},
		[]string{"write 1 " + own(408, "close"), "close 1", "write 2 " + own(504, ""), "write 3 " + own(408, "close"), "close 3"})...)
	s.do(tick(59))
	s.do(tick(1), "restore 0")
	s.do(tick(939))
	s.do(tick(1), "open h4 0", "open h5 1")
}

// 27.1: time goes by in one step as in many.
func TestTicksParted(t *testing.T) {
	c := with(func(c *api.Config, r *api.Route) {
		widen(c, 3)
		c.Every, c.Timeout, c.Path = 7, 3, "/p"
		c.Fails, c.Base, c.Longest = 2, 5, 9
		r.Retries, r.Hedges, r.HedgeAfter, r.PerTry, r.Total, r.Fails = 3, 2, 4, 9, 60, 3
	})
	play := func(span int) []api.Act {
		s := begin(t, c)
		s.play(open(1), room(1, much), came(1, get+get))
		var l []api.Act
		for range 240 / span {
			s.play(tick(span))
			l = append(l, s.steps[len(s.steps)-1].Acts...)
		}
		return l
	}
	want := play(1)
	for _, span := range []int{2, 3, 5, 16, 240} {
		got := play(span)
		if len(got) != len(want) {
			t.Fatalf("%d: %d acts; want %d", span, len(got), len(want))
		}
		for i, a := range got {
			if x := want[i]; a.Kind != x.Kind || a.At != x.At || a.Conn != x.Conn || a.Host != x.Host {
				t.Errorf("%d: %v; want %v", span, a, x)
			}
		}
	}
}
