package proxy_test

import (
	"fmt"
	"strings"
	"testing"

	"headrace/api"
)

// 27.9: a request without a route is answered 404, and kept as it asks.
func TestNoRoute(t *testing.T) {
	c := with(func(c *api.Config, r *api.Route) { r.Prefix = "/a"; r.Methods = []string{"GET", "HEAD"} })
	for _, x := range []struct {
		text, connection string
		kept             bool
	}{
		{"GET / HTTP/1.1\r\nHost: h\r\n\r\n", "", true},
		{"GET /ab HTTP/1.1\r\nHost: h\r\n\r\n", "", true},
		{"POST /a HTTP/1.1\r\nHost: h\r\nContent-Length: 2\r\n\r\nab", "", true},
		{"OPTIONS * HTTP/1.1\r\nHost: h\r\n\r\n", "", true},
		{"GET / HTTP/1.1\r\nHost: h\r\nConnection: close\r\n\r\n", "close", false},
		{"GET / HTTP/1.0\r\n\r\n", "close", false},
		{"GET / HTTP/1.0\r\nConnection: keep-alive\r\n\r\n", "keep-alive", true},
	} {
		s := served(t, c)
		want := []string{"parsed 1 0 -1", "answer 1 0 404 0", "done 1 0", "write 1 " + own(404, x.connection)}
		if !x.kept {
			want = append(want, "close 1")
		}
		s.do(came(1, x.text), want...)
	}
	s := served(t, c)
	text := own(404, "")
	s.do(came(1, "HEAD / HTTP/1.1\r\nHost: h\r\n\r\n"), "parsed 1 0 -1", "answer 1 0 404 0", "done 1 0", "write 1 "+text[:strings.Index(text, "\r\n\r\n")+4])
	s.do(came(1, "GET /a HTTP/1.1\r\nHost: h\r\n\r\n"), "parsed 1 1 0", "admit 1 1 0", "try 1 1 0 0", "open h0 0")
}

// A request whose target or host is none is answered 400, and not kept.
func TestNoPlace(t *testing.T) {
	for _, text := range []string{
		"CONNECT h:1 HTTP/1.1\r\nHost: h\r\n\r\n",
		"CONNECT h HTTP/1.1\r\nHost: h\r\n\r\n",
		"GET * HTTP/1.1\r\nHost: h\r\n\r\n",
		"GET x HTTP/1.1\r\nHost: h\r\n\r\n",
		"GET /% HTTP/1.1\r\nHost: h\r\n\r\n",
		"GET http://h:x/ HTTP/1.1\r\nHost: h\r\n\r\n",
		"GET http:/// HTTP/1.1\r\nHost: h\r\n\r\n",
		"GET / HTTP/1.1\r\n\r\n",
		"GET / HTTP/1.1\r\nHost: h\r\nHost: h\r\n\r\n",
		"GET / HTTP/1.1\r\nHost: h,h\r\n\r\n",
		"GET / HTTP/1.1\r\nHost: h:99999\r\n\r\n",
		"GET / HTTP/1.0\r\nHost: [\r\nConnection: keep-alive\r\n\r\n",
	} {
		s := served(t, plain())
		s.do(came(1, text+get), row([]string{"parsed 1 0 -1"}, lastLines(1, 0, 400))...)
		s.holds(0, 0)
	}
}

// A request that can't go on is answered 400 in the place of its admission: it takes no token, and nobody's place.
func TestNotOnward(t *testing.T) {
	s := served(t, with(func(c *api.Config, r *api.Route) {
		c.MaxHead, c.Clients = 20000, 4
		r.Rate, r.Burst, r.Open = 0, 1, 1
	}))
	// Its line is as long as one may be, and would get a blank more.
	long := "GET / HTTP/1.1\r\nHost: h\r\nA:" + strings.Repeat("x", api.MaxLine-2) + "\r\n\r\n"
	s.do(came(1, long), row([]string{"parsed 1 0 0"}, lastLines(1, 0, 400))...)
	s.do(open(2))
	s.do(came(2, get), "parsed 2 1 0", "admit 2 1 0", "try 2 1 0 0", "open h0 0")
}

// 27.9: a request without a token is answered 429; with the next one's moment there is one again.
func TestNoToken(t *testing.T) {
	s := served(t, with(func(c *api.Config, r *api.Route) { r.Rate, r.Per, r.Burst = 1, 10, 1 }))
	s.do(came(1, get), firstTry()...)
	s.play(up(0), came(h(0), ok))
	s.do(came(1, get), row([]string{"parsed 1 1 0"}, ownLines(1, 1, 429))...)
	s.do(tick(9))
	s.do(came(1, get), row([]string{"parsed 1 2 0"}, ownLines(1, 2, 429))...)
	s.do(tick(1))
	s.do(came(1, get), "parsed 1 3 0", "admit 1 3 0", "try 1 3 0 0", "write h0 "+onward)
}

// A request whose route's gate is full is answered 503, and takes its token; there is room again when another one is done or its client is gone.
func TestGateFull(t *testing.T) {
	c := with(func(c *api.Config, r *api.Route) { r.Rate, r.Burst, r.Open = 0, 4, 1 })
	full := func(t *testing.T) *stage {
		s := sent(t, c, get)
		s.play(open(2), room(2, much))
		s.do(came(2, get), row([]string{"parsed 2 1 0"}, ownLines(2, 1, 503))...)
		return s
	}
	s := full(t)
	s.play(came(h(0), ok))
	s.do(came(2, get), "parsed 2 2 0", "admit 2 2 0", "try 2 2 0 0", "write h0 "+onward)
	s.do(reset(2), "close h0")
	s.do(came(1, get), "parsed 1 3 0", "admit 1 3 0", "try 1 3 0 0", "open h1 0")
	s.do(refused(1), ownLines(1, 3, 503)...)
	s.do(came(1, get), row([]string{"parsed 1 4 0"}, ownLines(1, 4, 429))...)

	s = full(t)
	s.do(reset(1), "close h0")
	s.do(came(2, get), "parsed 2 2 0", "admit 2 2 0", "try 2 2 0 0", "open h1 0")

	// Who is gone twice has left once.
	s = begin(t, with(func(c *api.Config, r *api.Route) { r.Open = 2 }))
	for conn := 1; conn <= 4; conn++ {
		s.play(open(conn), room(conn, much))
	}
	s.play(came(1, get), came(2, get), reset(1), reset(1), reset(1), ends(1), came(1, get), room(1, 9))
	s.do(came(3, get), "parsed 3 2 0", "admit 3 2 0", "try 3 2 0 0", "open h2 0")
	s.do(came(4, get), row([]string{"parsed 4 3 0"}, ownLines(4, 3, 503))...)

	// One whose answer is cut off stays within until its client is closed.
	s = begin(t, c)
	s.play(open(1), open(2), room(2, much), came(1, get), up(0), came(h(0), ok[:len(ok)-1]))
	s.do(reset(h(0)))
	s.do(came(2, get), row([]string{"parsed 2 1 0"}, ownLines(2, 1, 503))...)
	s.do(room(1, much), "write 1 "+back[:len(back)-1], "close 1")
	s.do(came(2, get), "parsed 2 2 0", "admit 2 2 0", "try 2 2 0 0", "open h1 0")
}

// A request that finds its route's breaker open is answered 503, and takes a token, but nobody's place.
func TestBreakerOpen(t *testing.T) {
	s := served(t, with(func(c *api.Config, r *api.Route) { r.Rate, r.Burst, r.Open, r.Fails, r.Cool = 0, 4, 1, 1, 10 }))
	s.play(came(1, get))
	s.do(refused(0), row([]string{"break 0"}, ownLines(1, 0, 503))...)
	s.do(came(1, get), row([]string{"parsed 1 1 0"}, ownLines(1, 1, 503))...)
	s.do(tick(9))
	s.do(came(1, get), row([]string{"parsed 1 2 0"}, ownLines(1, 2, 503))...)
	s.do(tick(1))
	s.do(came(1, get), "parsed 1 3 0", "admit 1 3 0", "try 1 3 0 0", "open h1 0")
	s.play(open(2), room(2, much))
	s.do(came(2, get), row([]string{"parsed 2 4 0"}, ownLines(2, 4, 429))...)
}

// Each route has its own bucket and gate.
func TestRoutesApart(t *testing.T) {
	c := with(func(c *api.Config, r *api.Route) {
		r.Rate, r.Burst, r.Open = 0, 1, 1
		other := *r
		other.Prefix, other.Hosts, other.Burst = "/b", []int{0}, 2
		c.Routes = append(c.Routes, other)
	})
	s := served(t, c)
	s.play(open(2), room(2, much))
	s.do(came(1, get), firstTry()...)
	s.do(came(2, "GET /b HTTP/1.1\r\nHost: h\r\n\r\n"), "parsed 2 1 1", "admit 2 1 1", "try 2 1 0 0", "open h1 0")
	s.do(refused(0), ownLines(1, 0, 503)...)
	s.do(came(1, get), row([]string{"parsed 1 2 0"}, ownLines(1, 2, 429))...)
	s.do(came(1, "GET /b HTTP/1.1\r\nHost: h\r\n\r\n"), row([]string{"parsed 1 3 1"}, ownLines(1, 3, 503))...)
}

// What is wrong with a request is answered without one, behind what was answered ahead of it, and nothing more is read.
func TestWrongRequests(t *testing.T) {
	for _, x := range []struct {
		text   string
		status int
	}{
		{"GET  / HTTP/1.1\r\n", 400},
		{"\n", 400},
		{"GET / HTTP/2.0\r\n", 400},
		{"GET / HTTP/1.1\r\nHost : h\r\n", 400},
		{"POST / HTTP/1.1\r\nHost: h\r\nContent-Length: 5\r\nTransfer-Encoding: chunked\r\n\r\n", 400},
		{"POST / HTTP/1.1\r\nHost: h\r\nContent-Length: 5, 6\r\n\r\n", 400},
		{"POST / HTTP/1.1\r\nHost: h\r\nTransfer-Encoding: gzip, chunked\r\n\r\n", 400},
		{"POST / HTTP/1.1\r\nHost: h\r\nTransfer-Encoding: chunked\r\n\r\ng\r\n", 400},
		{"POST / HTTP/1.1\r\nHost: h\r\nContent-Length: 101\r\n\r\n", 413},
		{"POST / HTTP/1.1\r\nHost: h\r\nTransfer-Encoding: chunked\r\n\r\n65\r\n", 413},
		{"GET /" + strings.Repeat("x", 400), 431},
	} {
		s := served(t, plain())
		s.do(came(1, x.text+get), turned(1, x.status)...)
		s.do(came(1, get))
		s.do(open(1))
		s.holds(0, 0)

		// Ahead of it a request is answered; with no room the client stays, and what it sends is not read.
		s = begin(t, plain())
		s.play(open(1), came(1, get+x.text), up(0))
		s.do(came(h(0), ok), "answer 1 0 200 1", "done 1 0", fmt.Sprint("answer 1 -1 ", x.status, " 0"))
		s.do(came(1, get))
		s.do(ends(1))
		s.do(tick(9000), "@4000 close h0")
		s.do(drain())
		s.holds(1, len(back)+len(own(x.status, "close")))
		s.do(room(1, much), "write 1 "+back+own(x.status, "close"), "close 1")
	}
}

// The bounds of a head and a body: at them, and one beyond.
func TestBounds(t *testing.T) {
	s := served(t, plain())
	head := "GET / HTTP/1.1\r\nHost: h\r\nA: " + strings.Repeat("x", 400-len(get)-5) + "\r\n\r\n"
	if len(head) != 400 {
		t.Fatal(len(head))
	}
	s.do(came(1, head), firstTry()...)
	s.do(refused(0), ownLines(1, 0, 503)...)
	s.do(came(1, strings.Replace(head, "A: ", "A: x", 1)), turned(1, 431)...)
	s = served(t, plain())
	s.do(came(1, "POST / HTTP/1.1\r\nHost: h\r\nContent-Length: 100\r\n\r\n"+strings.Repeat("x", 99)))
	s.do(came(1, "x"), firstTry()...)
	s.holds(2, 100)
}

// A client that sends nothing more: ahead of a request, in its head, in its body, while it runs.
func TestClientEnds(t *testing.T) {
	s := served(t, plain())
	s.do(ends(1), "close 1")
	for _, text := range []string{"G", "\r\n", get[:len(get)-1], post[:len(post)-1]} {
		s = served(t, plain())
		s.do(came(1, text))
		s.do(ends(1), turned(1, 400)...)
	}
	s = served(t, plain())
	s.do(came(1, get+get[:9]), firstTry()...)
	s.do(ends(1))
	s.do(refused(0), row(ownLines(1, 0, 503)[:2], []string{"answer 1 -1 400 0", "write 1 " + own(503, "") + own(400, "close"), "close 1"})...)
	// One that is not kept is not read behind.
	s = served(t, plain())
	text := "GET / HTTP/1.1\r\nHost: h\r\nConnection: close\r\n\r\n"
	s.do(came(1, text+"\n"), firstTry()...)
	s.do(ends(1))
	s.do(refused(0), lastLines(1, 0, 503)...)
}

// A client that sends nothing more, with no room: it is closed when all is written.
func TestClientEndsFull(t *testing.T) {
	s := begin(t, with(func(c *api.Config, r *api.Route) { c.MaxOut = 3 }))
	s.play(open(1), came(1, get+get), ends(1), up(0))
	s.do(came(h(0), ok), "answer 1 0 200 1", "done 1 0")
	s.do(room(1, len(back)-3), "write 1 "+back[:len(back)-3])
	s.do(room(1, 1), "write 1 "+back[len(back)-3:len(back)-2], "parsed 1 1 0", "admit 1 1 0", "try 1 1 0 0", "write h0 "+onward)
	s.do(came(h(0), ok), "answer 1 1 200 1", "done 1 1")
	s.do(room(1, much), "write 1 ab"+back, "close 1")
}

// Several requests behind one another: one at a time, in their order, and kept as each asks.
func TestBehindOneAnother(t *testing.T) {
	s := served(t, plain())
	last := "POST / HTTP/1.1\r\nHost: h\r\nConnection: close\r\nTransfer-Encoding: chunked\r\n\r\n3\r\nabc\r\n0\r\nT: 1\r\n\r\n"
	s.do(came(1, get+post+last+get), firstTry()...)
	s.holds(2, 0)
	s.do(up(0), "write h0 "+onward)
	s.do(came(h(0), ok), "answer 1 0 200 1", "done 1 0", "parsed 1 1 0", "admit 1 1 0", "try 1 1 0 0", "write h0 POST / HTTP/1.1\r\nHost: h\r\nContent-Length: 3\r\nVia: 1.1 headrace\r\n\r\nxyz", "write 1 "+back)
	s.holds(2, 3)
	s.do(came(h(0), ok), "answer 1 1 200 1", "done 1 1", "parsed 1 2 0", "admit 1 2 0", "try 1 2 0 0", "write h0 POST / HTTP/1.1\r\nHost: h\r\nContent-Length: 3\r\nVia: 1.1 headrace\r\n\r\nabc", "write 1 "+back)
	s.do(came(h(0), ok), "answer 1 2 200 1", "done 1 2", "write 1 HTTP/1.1 200 OK\r\nContent-Length: 2\r\nVia: 1.1 headrace\r\nConnection: close\r\n\r\nab", "close 1")
	s.holds(1, 0)
}

// Requests that are answered at once are read on in the same step, though there is no room.
func TestAnsweredAtOnce(t *testing.T) {
	s := begin(t, with(func(c *api.Config, r *api.Route) { r.Prefix = "/a" }))
	s.do(open(1))
	s.do(came(1, get+get+get[:5]), "parsed 1 0 -1", "answer 1 0 404 0", "done 1 0", "parsed 1 1 -1", "answer 1 1 404 0", "done 1 1")
	s.do(ends(1), "answer 1 -1 400 0")
	s.do(room(1, much), "write 1 "+own(404, "")+own(404, "")+own(400, "close"), "close 1")
}

// A request's body goes on with its length, an empty one too; where its framing is none it has none.
func TestBodiesOnward(t *testing.T) {
	via := "Via: 1.1 headrace\r\n\r\n"
	for text, want := range map[string]string{
		"PUT / HTTP/1.1\r\nHost: h\r\nContent-Length: 0\r\n\r\n":                             "PUT / HTTP/1.1\r\nHost: h\r\nContent-Length: 0\r\n" + via,
		"PUT / HTTP/1.1\r\nHost: h\r\nTransfer-Encoding: chunked\r\n\r\n0\r\n\r\n":           "PUT / HTTP/1.1\r\nHost: h\r\nContent-Length: 0\r\n" + via,
		"PUT / HTTP/1.1\r\nHost: h\r\n\r\n":                                                  "PUT / HTTP/1.1\r\nHost: h\r\n" + via,
		"GET http://B.c:9?x HTTP/1.0\r\nHost: z\r\nKeep-Alive: 1\r\n\r\n":                    "GET /?x HTTP/1.1\r\nHost: b.c:9\r\nVia: 1.0 headrace\r\n\r\n",
		"OPTIONS * HTTP/1.1\r\nHost: h\r\nConnection: x-y\r\nX-Y: 1\r\nExpect: 1\r\n\r\n":    "OPTIONS * HTTP/1.1\r\nHost: h\r\n" + via,
		"GET / HTTP/1.1\r\nHost: h\r\nContent-Length: 2\r\nX-Z: a\r\nX-Z:   b  \r\n\r\n\r\n": "GET / HTTP/1.1\r\nHost: h\r\nX-Z: a\r\nX-Z: b\r\nContent-Length: 2\r\n" + via + "\r\n",
	} {
		s := served(t, plain())
		s.do(came(1, text), firstTry()...)
		s.do(up(0), "write h0 "+want)
	}
}

// Empty lines ahead of a request are passed over, and a part of one is held in no act.
func TestPieceByPiece(t *testing.T) {
	s := served(t, plain())
	text := "\r\n\r\n" + post
	for i := range len(text) - 1 {
		s.do(came(1, text[i:i+1]))
		s.holds(1, 0)
	}
	s.do(came(1, "z"), firstTry()...)
	s.holds(2, 3)
	s.do(refused(0), ownLines(1, 0, 503)...)
	s.holds(1, 0)
}

// The numbers of requests go over all clients; each client's acts name it alone.
func TestManyClients(t *testing.T) {
	s := begin(t, with(func(c *api.Config, r *api.Route) { c.Hosts[0].Cap = 4 }))
	for i, conn := range []int{5, 0, 3} {
		s.do(open(conn))
		s.do(room(conn, much))
		s.do(came(conn, get), fmt.Sprintf("parsed %d %d 0", conn, i), fmt.Sprintf("admit %d %d 0", conn, i), fmt.Sprintf("try %d %d 0 0", conn, i), fmt.Sprintf("open h%d 0", i))
	}
	for i, conn := range []int{5, 0, 3} {
		s.do(up(i), fmt.Sprintf("write h%d %s", i, onward))
		s.do(came(h(i), ok), fmt.Sprintf("answer %d %d 200 1", conn, i), fmt.Sprintf("done %d %d", conn, i), fmt.Sprintf("write %d %s", conn, back))
	}
	s.holds(6, 0)
}
