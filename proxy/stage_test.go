package proxy_test

import (
	"fmt"
	"strings"
	"testing"

	"headrace/api"
	"headrace/config"
	"headrace/proxy"
	"headrace/trace"
	"headrace/write"
)

const base = proxy.Base

// What is sent and comes in most tests.
const (
	get    = "GET / HTTP/1.1\r\nHost: h\r\n\r\n"
	post   = "POST / HTTP/1.1\r\nHost: h\r\nContent-Length: 3\r\n\r\nxyz"
	onward = "GET / HTTP/1.1\r\nHost: h\r\nVia: 1.1 headrace\r\n\r\n"
	ok     = "HTTP/1.1 200 OK\r\nContent-Length: 2\r\n\r\nab"
	back   = "HTTP/1.1 200 OK\r\nContent-Length: 2\r\nVia: 1.1 headrace\r\n\r\nab"
)

// much is more room than any test needs.
const much = 100000

// plain is a configuration of one host and one route, by which nothing is refused or late for long.
func plain() api.Config {
	r := api.Route{
		Match: api.Match{Prefix: "/"}, Hosts: []int{0},
		Rate: 1000, Per: 1, Burst: 1000, Open: 100,
		Cool: 10, Probes: 1, Percent: 100, Min: 100, Window: 100,
		HedgeAfter: 1000, PerTry: 2000, Total: 5000,
	}
	return api.Config{
		Hosts: []api.Host{{Name: "a", Cap: 2, Pend: 1}}, Routes: []api.Route{r},
		Timeout: 5, Up: 1, Down: 1, Base: 10, Longest: 30, Share: 100,
		MaxHead: 400, MaxBody: 100, MaxOut: 1000,
		HeadTime: 3000, Idle: 4000, Life: 8000, Clients: 4,
	}
}

// with is the plain configuration with something set.
func with(set func(c *api.Config, r *api.Route)) api.Config {
	c := plain()
	set(&c, &c.Routes[0])
	return c
}

// widen gives it so many hosts, all of its route, of one connection each.
func widen(c *api.Config, hosts int) {
	c.Hosts, c.Routes[0].Hosts = nil, nil
	for i := range hosts {
		c.Hosts = append(c.Hosts, api.Host{Name: string(rune('a' + i)), Cap: 1})
		c.Routes[0].Hosts = append(c.Routes[0].Hosts, i)
	}
}

func tick(n int) api.Event  { return api.Event{Kind: api.EvTick, N: n} }
func open(c int) api.Event  { return api.Event{Kind: api.EvOpen, Conn: c} }
func ends(c int) api.Event  { return api.Event{Kind: api.EvEnd, Conn: c} }
func reset(c int) api.Event { return api.Event{Kind: api.EvReset, Conn: c} }
func drain() api.Event      { return api.Event{Kind: api.EvDrain} }
func draw(n int) api.Event  { return api.Event{Kind: api.EvDraw, N: n} }

func came(c int, text string) api.Event {
	return api.Event{Kind: api.EvBytes, Conn: c, Bytes: []byte(text)}
}

func room(c, n int) api.Event { return api.Event{Kind: api.EvRoom, Conn: c, N: n} }

// h is the n-th connection to a host.
func h(n int) int { return base + n }

func up(n int) api.Event      { return api.Event{Kind: api.EvUp, Conn: h(n)} }
func refused(n int) api.Event { return api.Event{Kind: api.EvRefused, Conn: h(n)} }

// stage is a proxy, and all that happened to it.
type stage struct {
	*testing.T
	c     api.Config
	p     *proxy.Proxy
	steps []api.Step
}

// begin is a stage whose trace is to keep the rules (27.2), and whose proxy its bounds (27.6).
func begin(t *testing.T, c api.Config) *stage {
	t.Helper()
	p, e := proxy.New(c)
	if p == nil || e != api.OK {
		t.Fatalf("New: %v, %v", p, e)
	}
	s := &stage{T: t, c: c, p: p}
	t.Cleanup(func() {
		if rule, step, e := trace.Check(c, s.steps); rule != 0 || e != api.OK {
			t.Errorf("rule %d is broken in step %d: %v", rule, step, e)
		}
	})
	return s
}

// served is a stage with a client 1 that has much room.
func served(t *testing.T, c api.Config) *stage {
	t.Helper()
	s := begin(t, c)
	s.do(open(1))
	s.do(room(1, much))
	return s
}

// sent is one whose client has sent something, which was tried on a connection that is up.
func sent(t *testing.T, c api.Config, text string) *stage {
	t.Helper()
	s := served(t, c)
	s.play(came(1, text), up(0))
	if last := s.last(); last.Kind != api.AcWrite || last.Conn != h(0) {
		t.Fatalf("%q was not sent: %v", text, last)
	}
	return s
}

// last is what was done last.
func (s *stage) last() api.Act {
	for i := len(s.steps) - 1; i >= 0; i-- {
		if l := s.steps[i].Acts; len(l) > 0 {
			return l[len(l)-1]
		}
	}
	return api.Act{}
}

// step takes an event: what is done, in words.
func (s *stage) step(e api.Event) []string {
	s.Helper()
	acts, err := s.p.Step(e)
	if err != api.OK {
		s.Fatalf("%v: %v", e, err)
	}
	s.steps = append(s.steps, api.Step{E: e, Acts: acts})
	conns, _ := config.Conns(s.c)
	bytes, _ := config.Buffered(s.c)
	if c, b := s.p.Held(); c > conns || b > bytes {
		s.Errorf("behind %v are held %d, %d", e, c, b)
	}
	var l []string
	for _, a := range acts {
		l = append(l, s.line(a))
	}
	return l
}

// do takes an event, and holds what is done against what is to be done.
func (s *stage) do(e api.Event, want ...string) {
	s.Helper()
	if l := s.step(e); strings.Join(l, "\n") != strings.Join(want, "\n") {
		s.Errorf("step %d:\n%s\nwant:\n%s", len(s.steps), strings.Join(l, "\n"), strings.Join(want, "\n"))
	}
}

// play takes events, whatever is done.
func (s *stage) play(l ...api.Event) {
	s.Helper()
	for _, e := range l {
		s.step(e)
	}
}

// refuses takes an event that is none: nothing is done.
func (s *stage) refuses(e api.Event) {
	s.Helper()
	now := s.p.Now()
	conns, bytes := s.p.Held()
	if acts, err := s.p.Step(e); len(acts) != 0 || err != api.ErrArg {
		s.Errorf("%d of %d, %d: %v, %v", e.Kind, e.Conn, e.N, acts, err)
	}
	if c, b := s.p.Held(); c != conns || b != bytes || s.p.Now() != now {
		s.Errorf("behind what was refused: %d, %d, %d", c, b, s.p.Now())
	}
}

// holds looks at what is held.
func (s *stage) holds(conns, bytes int) {
	s.Helper()
	if c, b := s.p.Held(); c != conns || b != bytes {
		s.Errorf("Held: %d, %d; want %d, %d", c, b, conns, bytes)
	}
}

// conn is a connection in words.
func conn(n int) string {
	if n >= base {
		return fmt.Sprint("h", n-base)
	}
	return fmt.Sprint(n)
}

// line is an act in words, behind its moment, if that is not the step's last one. An act has no other fields than those that its kind names (R4).
func (s *stage) line(a api.Act) string {
	c := conn(a.Conn)
	told := api.Act{Kind: a.Kind, At: a.At}
	var line string
	switch a.Kind {
	case api.AcOpen:
		told.Conn, told.Host = a.Conn, a.Host
		line = fmt.Sprint("open ", c, " ", a.Host)
	case api.AcWrite:
		told.Conn = a.Conn
		line = "write " + c + " " + string(a.Bytes)
	case api.AcClose:
		told.Conn = a.Conn
		line = "close " + c
	case api.AcParsed, api.AcAdmit:
		told.Conn, told.Req, told.N = a.Conn, a.Req, a.N
		line = fmt.Sprint(map[int]string{api.AcParsed: "parsed ", api.AcAdmit: "admit "}[a.Kind], c, " ", a.Req, " ", a.N)
	case api.AcTry:
		told.Conn, told.Req, told.N, told.Host = a.Conn, a.Req, a.N, a.Host
		line = fmt.Sprint("try ", c, " ", a.Req, " ", a.Host, " ", a.N)
	case api.AcAnswer:
		told.Conn, told.Req, told.N, told.Status = a.Conn, a.Req, a.N, a.Status
		line = fmt.Sprint("answer ", c, " ", a.Req, " ", a.Status, " ", a.N)
	case api.AcDone:
		told.Conn, told.Req = a.Conn, a.Req
		line = fmt.Sprint("done ", c, " ", a.Req)
	case api.AcEject, api.AcRestore, api.AcDown, api.AcHealthy:
		told.Host = a.Host
		line = fmt.Sprint([]string{"eject ", "restore ", "down ", "healthy "}[a.Kind-api.AcEject], a.Host)
	case api.AcBreak, api.AcMend:
		told.N = a.N
		line = fmt.Sprint(map[int]string{api.AcBreak: "break ", api.AcMend: "mend "}[a.Kind], a.N)
	}
	if fmt.Sprint(told, len(a.Bytes)) != fmt.Sprint(without(a), len(a.Bytes)) {
		s.Errorf("%+v has more than its kind names", a)
	}
	if a.At != s.p.Now() {
		line = fmt.Sprint("@", a.At, " ", line)
	}
	return line
}

// without is an act without its bytes, which are an AcWrite's alone.
func without(a api.Act) api.Act {
	if a.Kind == api.AcWrite {
		a.Bytes = nil
	}
	return a
}

// own is an own answer, with a field Connection, if it has one.
func own(status int, connection string) string {
	body := fmt.Sprintf("%d %s\n", status, write.Reason(status))
	if connection != "" {
		connection = "Connection: " + connection + "\r\n"
	}
	return fmt.Sprintf("HTTP/1.1 %d %s\r\nContent-Length: %d\r\n%s\r\n%s", status, write.Reason(status), len(body), connection, body)
}

// row is one list of several.
func row(l ...[]string) []string {
	var out []string
	for _, x := range l {
		out = append(out, x...)
	}
	return out
}

// firstTry is what is done with a client's request that is the first one of all, up to its first attempt's connection.
func firstTry() []string {
	return []string{"parsed 1 0 0", "admit 1 0 0", "try 1 0 0 0", "open h0 0"}
}

// ownLines are what is done where a request gets an own answer and is kept.
func ownLines(conn, req, status int) []string {
	return []string{
		fmt.Sprint("answer ", conn, " ", req, " ", status, " 0"),
		fmt.Sprint("done ", conn, " ", req),
		fmt.Sprint("write ", conn, " ", own(status, "")),
	}
}

// lastLines are those where the client is closed behind it.
func lastLines(conn, req, status int) []string {
	l := ownLines(conn, req, status)
	l[2] = fmt.Sprint("write ", conn, " ", own(status, "close"))
	return append(l, fmt.Sprint("close ", conn))
}

// turned are those of an answer to no request.
func turned(conn, status int) []string {
	l := lastLines(conn, -1, status)
	return append(l[:1:1], l[2:]...)
}
