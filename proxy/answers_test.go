package proxy_test

import (
	"fmt"
	"strings"
	"testing"

	"headrace/api"
)

// told is a host's response, and how it goes back.
type told struct {
	name   string
	asked  string // the request
	text   string
	byEnd  bool // it is whole by the connection's end
	back   string
	again  bool // the host's connection is used again
	closed bool // the client's is closed
}

// allTold are responses of each framing, to clients of both versions.
func allTold() []told {
	old := "GET / HTTP/1.0\r\nHost: h\r\n\r\n"
	kept := "GET / HTTP/1.0\r\nHost: h\r\nConnection: keep-alive\r\n\r\n"
	chunks := "HTTP/1.1 200 OK\r\nTransfer-Encoding: chunked\r\nTrailer: T\r\n\r\n1;x=y\r\na\r\n1\r\nb\r\n0\r\nT: 1\r\n\r\n"
	bare := "HTTP/1.1 200 OK\r\nX: y\r\n\r\nab"
	inChunks := "Via: 1.1 headrace\r\nTransfer-Encoding: chunked\r\n\r\n2\r\nab\r\n0\r\n\r\n"
	return []told{
		{"length", get, ok, false, back, true, false},
		{"chunks", get, chunks, false, "HTTP/1.1 200 OK\r\n" + inChunks, true, false},
		{"end", get, bare, true, "HTTP/1.1 200 OK\r\nX: y\r\n" + inChunks, false, false},
		{"no length", get, "HTTP/1.1 200 OK\r\nContent-Length: 0\r\n\r\n", false, "HTTP/1.1 200 OK\r\nContent-Length: 0\r\nVia: 1.1 headrace\r\n\r\n", true, false},
		{"no chunks", get, "HTTP/1.1 404 \r\nTransfer-Encoding: chunked\r\n\r\n0\r\n\r\n", false, "HTTP/1.1 404 \r\nVia: 1.1 headrace\r\nTransfer-Encoding: chunked\r\n\r\n0\r\n\r\n", true, false},
		{"204", get, "HTTP/1.1 204 No\r\n\r\n", false, "HTTP/1.1 204 No\r\nVia: 1.1 headrace\r\n\r\n", true, false},
		{"304", get, "HTTP/1.1 304 No\r\nContent-Length: 9\r\n\r\n", false, "HTTP/1.1 304 No\r\nContent-Length: 9\r\nVia: 1.1 headrace\r\n\r\n", true, false},
		{"head", "HEAD" + get[3:], "HTTP/1.1 200 OK\r\nTransfer-Encoding: chunked\r\n\r\n", false, "HTTP/1.1 200 OK\r\nVia: 1.1 headrace\r\n\r\n", true, false},
		{"host closes", get, "HTTP/1.1 200 OK\r\nConnection: close, X\r\nX: 1\r\nContent-Length: 2\r\n\r\nab", false, back, false, false},
		{"old host", get, "HTTP/1.0 200 OK\r\nContent-Length: 2\r\n\r\nab", false, strings.Replace(back, "1.1 headrace", "1.0 headrace", 1), false, false},
		{"old host that keeps", get, "HTTP/1.0 200 OK\r\nConnection: Keep-Alive\r\nContent-Length: 2\r\n\r\nab", false, strings.Replace(back, "1.1 headrace", "1.0 headrace", 1), true, false},
		{"interim", get, "HTTP/1.1 100 Continue\r\n\r\n" + strings.Repeat("HTTP/1.1 103 X\r\nLink: 1\r\n\r\n", 7) + ok, false, back, true, false},
		{"client closes", get[:len(get)-2] + "Connection: close\r\n\r\n", ok, false, back[:len(back)-4] + "Connection: close\r\n\r\nab", true, true},
		{"old client, length", old, ok, false, back[:len(back)-4] + "Connection: close\r\n\r\nab", true, true},
		{"old client that keeps, length", kept, ok, false, back[:len(back)-4] + "Connection: keep-alive\r\n\r\nab", true, false},
		{"old client, chunks", old, chunks, false, "HTTP/1.1 200 OK\r\nVia: 1.1 headrace\r\nConnection: close\r\n\r\nab", true, true},
		{"old client that keeps, chunks", kept, chunks, false, "HTTP/1.1 200 OK\r\nVia: 1.1 headrace\r\nConnection: close\r\n\r\nab", true, true},
		{"old client that keeps, end", kept, bare, true, "HTTP/1.1 200 OK\r\nX: y\r\nVia: 1.1 headrace\r\nConnection: close\r\n\r\nab", false, true},
	}
}

// got is all that was written to a client.
func (s *stage) got(conn int) string {
	text := ""
	for _, x := range s.steps {
		for _, a := range x.Acts {
			if a.Kind == api.AcWrite && a.Conn == conn {
				text += string(a.Bytes)
			}
		}
	}
	return text
}

// closed tells whether a connection was closed.
func (s *stage) closed(conn int) bool {
	for _, x := range s.steps {
		for _, a := range x.Acts {
			if a.Kind == api.AcClose && a.Conn == conn {
				return true
			}
		}
	}
	return false
}

// ended looks at how it stands behind a whole answer.
func (x told) ended(s *stage) {
	s.Helper()
	if s.closed(1) != x.closed || s.closed(h(0)) == x.again {
		s.Errorf("closed: %v, %v", s.closed(1), s.closed(h(0)))
	}
	conns := 0
	if x.again {
		conns++
	}
	if !x.closed {
		conns++
	}
	s.holds(conns, 0)
}

// 27.3, 27.8: responses of each framing, in one piece.
func TestAnswers(t *testing.T) {
	for _, x := range allTold() {
		t.Run(x.name, func(t *testing.T) {
			s := sent(t, plain(), x.asked)
			s.play(came(h(0), x.text))
			if x.byEnd {
				s.play(ends(h(0)))
			}
			if s.got(1) != x.back {
				t.Errorf("%q; want %q", s.got(1), x.back)
			}
			x.ended(s)
		})
	}
}

// P3: byte by byte, with room for a byte at a time too; the chunks are other ones, but the same is read.
func TestAnswersInPieces(t *testing.T) {
	for _, x := range allTold() {
		for _, much := range []int{much, 1} {
			t.Run(fmt.Sprint(x.name, much), func(t *testing.T) {
				s := begin(t, with(func(c *api.Config, r *api.Route) { c.MaxOut = 10 }))
				s.play(open(1), came(1, x.asked), up(0), room(1, much))
				for i := range x.text {
					s.play(came(h(0), x.text[i:i+1]), room(1, much))
				}
				if x.byEnd {
					s.play(ends(h(0)))
				}
				for range 600 {
					s.play(room(1, 1))
				}
				method := strings.Fields(x.asked)[0]
				want, _, _ := readBack(t, method, x.back)
				got, rest, _ := readBack(t, method, s.got(1))
				if fmt.Sprint(got) != fmt.Sprint(want) || rest != "" {
					t.Errorf("%v, %q; want %v", got, rest, want)
				}
				x.ended(s)
			})
		}
	}
}

// 27.3: a response that is cut off ahead of its head, in it and in its body, by an end and by a reset: it is never ended.
func TestCutOff(t *testing.T) {
	for _, x := range allTold() {
		for n := range len(x.text) + 1 {
			for _, e := range []api.Event{ends(h(0)), reset(h(0))} {
				if n == len(x.text) && (!x.byEnd || e.Kind == api.EvEnd) {
					continue
				}
				s := sent(t, plain(), x.asked)
				s.play(came(h(0), x.text[:n]), e)
				x.isCut(s, n, e)
				if t.Failed() {
					t.Fatalf("%s: %q", x.name, x.text[:n])
				}
			}
		}
	}
}

// isCut looks at how it stands behind a response that was cut off behind n bytes.
func (x told) isCut(s *stage, n int, e api.Event) {
	s.Helper()
	method := strings.Fields(x.asked)[0]
	head := strings.LastIndex(x.text, "\r\n\r\n")
	if i := strings.Index(x.text, "HTTP/1.1 200"); i >= 0 {
		head = i + strings.Index(x.text[i:], "\r\n\r\n")
	} else {
		head = strings.Index(x.text, "\r\n\r\n")
	}
	got, rest, ok := readBack(s.T, method, s.got(1))
	switch {
	case !ok || rest != "" || s.closed(h(0)) != (e.Kind == api.EvEnd):
		s.Errorf("%q", s.got(1))
	case n < head+4:
		if got.h.Status != 502 || !got.whole {
			s.Errorf("ahead of its body: %v", got)
		}
	case x.byEnd && e.Kind == api.EvEnd:
		if !got.whole && !got.byEnd {
			s.Errorf("it ended so: %v", got)
		}
	default:
		if got.whole || !s.closed(1) || !strings.HasPrefix("ab", got.body) {
			s.Errorf("in its body: %v", got)
		}
		s.holds(0, 0)
	}
}

// What is wrong in a body behind a right head cuts the answer off, in one piece and in several.
func TestWrongBody(t *testing.T) {
	head := "HTTP/1.1 200 OK\r\nTransfer-Encoding: chunked\r\n\r\n"
	want := "HTTP/1.1 200 OK\r\nVia: 1.1 headrace\r\nTransfer-Encoding: chunked\r\n\r\n"
	for _, body := range []string{"g\r\n", "\n", "1\r\nab\r\n", "1\r\na\r\n0\r\nx\r\n", "0\r\nx y: 1\r\n"} {
		for _, retries := range []int{0, 1} {
			c := with(func(c *api.Config, r *api.Route) { r.Retries = retries })
			s := sent(t, c, get)
			s.play(came(h(0), head+body))
			one := s.got(1)
			parted := sent(t, c, get)
			for _, x := range strings.Split(head+body, "") {
				parted.play(came(h(0), x))
			}
			for _, s := range []*stage{s, parted} {
				got, rest, ok := readBack(t, "GET", s.got(1))
				if !ok || got.whole || rest != "" || !strings.HasPrefix(s.got(1), want) || !s.closed(1) || !s.closed(h(0)) {
					t.Errorf("%q: %q", body, s.got(1))
				}
				s.holds(0, 0)
			}
			if one != parted.got(1) {
				t.Errorf("%q: %q; in pieces %q", body, one, parted.got(1))
			}
		}
	}
}

// A response that can't go back: its host is let go, and 502 is answered.
func TestCantGoBack(t *testing.T) {
	c := with(func(c *api.Config, r *api.Route) { c.MaxHead = 20000; r.Retries = 3; r.Fails = 1 })
	// Its line is as long as one may be, and would get a blank more.
	long := "HTTP/1.1 200 OK\r\nA:" + strings.Repeat("x", api.MaxLine-2) + "\r\nContent-Length: 0\r\n\r\n"
	s := sent(t, c, get)
	s.play(came(h(0), long[:5000]))
	s.do(came(h(0), long[5000:]), row([]string{"close h0"}, ownLines(1, 0, 502))...)
	s.do(came(1, get), "parsed 1 1 0", "admit 1 1 0", "try 1 1 0 0", "open h1 0")
}

// Bytes behind a whole response: the connection is of no more use.
func TestBehindResponse(t *testing.T) {
	for _, more := range []string{"x", "\r\n", ok} {
		s := sent(t, plain(), get)
		s.do(came(h(0), ok+more), "answer 1 0 200 1", "close h0", "done 1 0", "write 1 "+back)
		s.do(came(1, get), "parsed 1 1 0", "admit 1 1 0", "try 1 1 0 0", "open h1 0")
	}
}

// A response is read as long as fewer than MaxOut bytes wait to be written, and so is the next request.
func TestMaxOut(t *testing.T) {
	head := back[:len(back)-2]
	start := func(t *testing.T, most int) *stage {
		s := begin(t, with(func(c *api.Config, r *api.Route) { c.MaxOut = most }))
		s.play(open(1), came(1, get+get), up(0))
		s.do(came(h(0), ok[:len(ok)-2]), "answer 1 0 200 1")
		s.holds(2, len(head))
		return s
	}
	s := start(t, len(head)+1)
	s.do(came(h(0), "a"))
	s.holds(2, len(head)+1)
	s.do(came(h(0), "b"))
	s.holds(2, len(head)+1)
	s.do(room(1, 1), "write 1 H", "done 1 0")
	s.holds(2, len(head)+1)
	s.do(room(1, 1), "write 1 T", "parsed 1 1 0", "admit 1 1 0", "try 1 1 0 0", "write h0 "+onward)
	s.do(room(1, much), "write 1 "+back[2:])

	s = start(t, len(head))
	s.do(came(h(0), "ab"))
	s.holds(2, len(head))
	s.do(room(1, 1), "write 1 H", "done 1 0")
	s.holds(2, len(head)+1)
	s.do(room(1, 1), "write 1 T")
	s.do(room(1, 1), "write 1 T", "parsed 1 1 0", "admit 1 1 0", "try 1 1 0 0", "write h0 "+onward)
}

// At most 4096 bytes are read at a time, so that little more than MaxOut waits (27.6).
func TestReadsBounded(t *testing.T) {
	s := begin(t, with(func(c *api.Config, r *api.Route) { c.MaxOut = 1 }))
	head := "HTTP/1.1 200 OK\r\nTransfer-Encoding: chunked\r\n\r\n"
	headBack := "HTTP/1.1 200 OK\r\nVia: 1.1 headrace\r\nTransfer-Encoding: chunked\r\n\r\n"
	s.play(open(1), came(1, get), up(0))
	body := strings.Repeat("x", 9000)
	s.do(came(h(0), head+"2328\r\n"+body+"\r\n0\r\n\r\n"), "answer 1 0 200 1")
	n := 4096 - len(head) - len("2328\r\n")
	part := func(n int) string { return fmt.Sprintf("%x\r\n%s\r\n", n, body[:n]) }
	s.holds(2, len(headBack)+len(part(n)))
	s.do(room(1, len(headBack)+len(part(n))-1), "write 1 "+headBack+part(n)[:len(part(n))-1])
	s.holds(2, 1)
	s.do(room(1, 1), "write 1 \n")
	s.holds(2, len(part(4096)))
	s.do(room(1, much), "write 1 "+part(4096), "done 1 0", "write 1 "+part(9000-n-4096)+"0\r\n\r\n")
}

// A connection that ended while its whole response waits to be read is not used again.
func TestEndBehindWhole(t *testing.T) {
	for _, text := range []string{ok, "HTTP/1.1 200 OK\r\nContent-Length: 2\r\n\r\nabx"} {
		s := begin(t, with(func(c *api.Config, r *api.Route) { c.MaxOut = 1 }))
		head := strings.Index(text, "ab")
		s.play(open(1), came(1, get+get), up(0))
		s.do(came(h(0), text[:head]), "answer 1 0 200 1")
		s.do(came(h(0), text[head:]))
		s.do(ends(h(0)))
		s.do(room(1, much), "write 1 "+back[:len(back)-2], "close h0", "done 1 0", "write 1 ab", "parsed 1 1 0", "admit 1 1 0", "try 1 1 0 0", "open h1 0")
	}
}

// An answer that ends with the connection, whose end comes while bytes wait to be read.
func TestEndWhileFull(t *testing.T) {
	s := begin(t, with(func(c *api.Config, r *api.Route) { c.MaxOut = 1 }))
	s.play(open(1), came(1, get), up(0))
	s.do(came(h(0), "HTTP/1.1 200 OK\r\n\r\n"), "answer 1 0 200 1")
	s.do(came(h(0), "ab"))
	s.do(ends(h(0)))
	s.holds(2, len("HTTP/1.1 200 OK\r\nVia: 1.1 headrace\r\nTransfer-Encoding: chunked\r\n\r\n"))
	s.play(room(1, much))
	if want := "HTTP/1.1 200 OK\r\nVia: 1.1 headrace\r\nTransfer-Encoding: chunked\r\n\r\n2\r\nab\r\n0\r\n\r\n"; s.got(1) != want || s.closed(1) || !s.closed(h(0)) {
		t.Errorf("%q", s.got(1))
	}
	s.holds(1, 0)
}

// A client whose answer is cut off gets what was read of it, as there is room, and is closed behind that; its request stays till then.
func TestCutWithoutRoom(t *testing.T) {
	s := begin(t, plain())
	s.play(open(1), came(1, post), up(0), came(h(0), ok[:len(ok)-1]))
	s.holds(2, len(back)-1+3)
	s.do(ends(h(0)), "close h0")
	s.holds(1, len(back)-1+3)
	s.do(tick(9000))
	s.do(came(1, get))
	s.do(room(1, len(back)-2), "write 1 "+back[:len(back)-2])
	s.holds(1, 1+3)
	s.do(room(1, 1), "write 1 a", "close 1")
	s.holds(0, 0)
	s = begin(t, plain())
	s.play(open(1), came(1, post), up(0), came(h(0), ok[:len(ok)-1]), ends(h(0)))
	s.do(reset(1))
	s.holds(0, 0)
}
