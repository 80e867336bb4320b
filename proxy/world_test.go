package proxy_test

import (
	"fmt"
	"math/rand"
	"slices"
	"strings"
	"testing"

	"headrace/api"
	"headrace/body"
	"headrace/config"
	"headrace/framing"
	"headrace/head"
	"headrace/proxy"
)

// asked is what a client of a drawn world sends: a request, or what is none.
type asked struct {
	text, mark, method, body string
	wrong                    bool
}

// guest is a client of a drawn world.
type guest struct {
	number int
	sends  []asked
	queue  string // what of them is still to come
	ended  bool
	gone   bool
	got    string    // what was written to it
	parsed int       // how many of its requests were
	told   []api.Act // its answers
	waits  bool      // a request is parsed, and not answered
	until  int       // when that is to be
}

// reply is what a host of a drawn world answers.
type reply struct {
	mark, method, body, text string
	status                   int
	right                    bool // what is answered is a response
	byEnd                    bool // its body ends with the connection
	ended                    bool // and that did
}

// wire is a host's connection of a drawn world.
type wire struct {
	number, host int
	up, gone     bool
	queue        string // what is still to come
	last         int    // the event behind that; 0: none
	reply        *reply // the last one
	sent         int    // bytes of it that came
	spoilt       bool   // something came that was none
}

// world is a proxy and all that is around it, drawn.
type world struct {
	*rand.Rand
	t      *testing.T
	c      api.Config
	p      *proxy.Proxy
	steps  []api.Step
	guests []*guest
	wires  []*wire
	marks  map[string]asked // what was sent, by a field of its own
	reqs   map[int]string   // the marks of those that are parsed
	tries  map[string][]int // the hosts on which they were tried
	told   map[string]*reply
	next   int  // the next client's number
	wild   bool // events come that are nothing to the proxy
	calm   bool // clients and hosts send what is right, and all of it
}

func newWorld(t *testing.T, r *rand.Rand, c api.Config) *world {
	p, e := proxy.New(c)
	if p == nil || e != api.OK {
		t.Fatalf("New(%+v): %v, %v", c, p, e)
	}
	return &world{Rand: r, t: t, c: c, p: p, marks: map[string]asked{}, reqs: map[int]string{}, tries: map[string][]int{}, told: map[string]*reply{}}
}

// drawRoute draws a route whose numbers are so small that its bounds are met.
func drawRoute(r *rand.Rand, hosts int) api.Route {
	x := api.Route{Hosts: r.Perm(hosts)[:1+r.Intn(hosts)]}
	x.Prefix = "/"
	x.Rate, x.Per, x.Burst = r.Intn(4), 1+r.Intn(9), 1+r.Intn(9)
	x.Open = 1 + r.Intn(4)
	x.Fails, x.Cool, x.Probes = r.Intn(4), 1+r.Intn(20), 1+r.Intn(3)
	x.Percent, x.Min, x.Window = []int{0, 50, 100}[r.Intn(3)], r.Intn(4), 1+r.Intn(30)
	x.Retries, x.Hedges = r.Intn(4), r.Intn(3)
	x.HedgeAfter, x.PerTry, x.Total = 1+r.Intn(10), 1+r.Intn(20), 1+r.Intn(60)
	return x
}

// drawConfig draws a configuration of such numbers.
func drawConfig(r *rand.Rand) api.Config {
	c := api.Config{Timeout: 1 + r.Intn(5), Up: 1 + r.Intn(2), Down: 1 + r.Intn(2), Path: "/~probe"}
	for i := range 1 + r.Intn(3) {
		c.Hosts = append(c.Hosts, api.Host{Name: string(rune('a' + i)), Cap: 1 + r.Intn(3), Pend: r.Intn(3)})
	}
	for range 1 + r.Intn(3) {
		c.Routes = append(c.Routes, drawRoute(r, len(c.Hosts)))
	}
	c.Routes[len(c.Routes)-1].Prefix = []string{"/", "/b", "/b/"}[r.Intn(3)]
	if r.Intn(2) == 0 {
		c.Routes[0].Rate, c.Routes[0].Burst = 100, 100
	}
	if r.Intn(3) == 0 {
		c.Every = 1 + r.Intn(30)
	}
	c.Fails, c.Base, c.Share = r.Intn(4), 1+r.Intn(10), []int{0, 34, 50, 100}[r.Intn(4)]
	c.Longest = c.Base + r.Intn(20)
	c.MaxHead, c.MaxBody, c.MaxOut = 180+r.Intn(300), r.Intn(60), 1+r.Intn(400)
	c.HeadTime, c.Idle, c.Life = 1+r.Intn(40), 1+r.Intn(30), 1+r.Intn(100)
	c.Clients = 1 + r.Intn(5)
	return c
}

// drawAsked draws what a client sends next.
func (w *world) drawAsked() asked {
	a := asked{mark: fmt.Sprint("q", len(w.marks))}
	a.method = []string{"GET", "GET", "HEAD", "POST", "PUT", "OPTIONS"}[w.Intn(6)]
	place := []string{"/", "/a", "/b", "/b/c", "/a?x=1", "http://H.com:8/a", "http://b"}[w.Intn(7)]
	version, more := "HTTP/1.1", "Host: h.com\r\n"
	if w.Intn(5) == 0 {
		version = "HTTP/1.0"
	}
	if w.Intn(20) == 0 && !w.calm {
		more = ""
	}
	if w.Intn(9) == 0 {
		a.method, place = "OPTIONS", "*"
	}
	more += []string{"", "", "", "", "Connection: close\r\n", "Connection: keep-alive, x-hop\r\nX-Hop: 1\r\n"}[w.Intn(6)]
	if a.method == "POST" || a.method == "PUT" {
		a.body = strings.Repeat("x", w.Intn(w.c.MaxBody+1))
		if version == "HTTP/1.1" && w.Intn(2) == 0 {
			more += "Transfer-Encoding: chunked\r\n"
			a.text = chunksOf(w.Rand, a.body)
		} else {
			more += fmt.Sprintf("Content-Length: %d\r\n", len(a.body))
			a.text = a.body
		}
	}
	a.text = a.method + " " + place + " " + version + "\r\nX-Q: " + a.mark + "\r\n" + more + "\r\n" + a.text
	if w.Intn(15) == 0 && !w.calm {
		a.wrong = true
		a.text = []string{
			"\n", "GET  / HTTP/1.1\r\n\r\n",
			"POST / HTTP/1.1\r\nHost: a\r\nContent-Length: 1\r\nTransfer-Encoding: chunked\r\n\r\n0\r\n\r\n",
			"POST / HTTP/1.1\r\nHost: a\r\nContent-Length: 999\r\n\r\n",
			"POST / HTTP/1.1\r\nHost: a\r\nTransfer-Encoding: chunked\r\n\r\nz\r\n",
			"GET /" + strings.Repeat("x", 1000) + " HTTP/1.1\r\n",
		}[w.Intn(6)]
	}
	w.marks[a.mark] = a
	return a
}

// chunksOf is a body in chunks of drawn sizes.
func chunksOf(r *rand.Rand, body string) string {
	s := ""
	for body != "" {
		n := 1 + r.Intn(len(body))
		s += fmt.Sprintf("%x;e\r\n%s\r\n", n, body[:n])
		body = body[n:]
	}
	return s + []string{"0\r\n\r\n", "0\r\nX-T: 1\r\n\r\n"}[r.Intn(2)]
}

// drawReply draws what a host answers to a request of a mark.
func (w *world) drawReply(mark, method string) *reply {
	r := &reply{mark: fmt.Sprint("a", len(w.told)), method: method, right: true}
	r.status = []int{200, 200, 200, 404, 500, 502, 503, 504, 204, 304, 599}[w.Intn(11)]
	r.body = fmt.Sprint("r", w.Intn(1000), strings.Repeat("y", w.Intn([]int{3, 30, 9000}[w.Intn(3)])))
	version := []string{"HTTP/1.1", "HTTP/1.1", "HTTP/1.0"}[w.Intn(3)]
	top := fmt.Sprintf("%s %d X\r\nX-A: %s\r\nX-Q: %s\r\n", version, r.status, r.mark, mark)
	if w.Intn(6) == 0 {
		top += "Connection: close\r\n"
	} else if version == "HTTP/1.0" && w.Intn(2) == 0 {
		top += "Connection: keep-alive\r\n"
	}
	bare := method == "HEAD" || r.status == 204 || r.status == 304
	switch kind := w.Intn(3); {
	case bare:
		r.body = ""
		r.text = top + []string{"\r\n", "Content-Length: 7\r\n\r\n"}[w.Intn(2)]
	case kind == 0 && version == "HTTP/1.1":
		r.text = top + "Transfer-Encoding: chunked\r\n\r\n" + chunksOf(w.Rand, r.body)
	case kind == 1:
		r.text, r.byEnd = top+"\r\n"+r.body, true
	default:
		r.text = top + fmt.Sprintf("Content-Length: %d\r\n\r\n", len(r.body)) + r.body
	}
	for w.Intn(6) == 0 {
		r.text = []string{"HTTP/1.1 100 Continue\r\n\r\n", "HTTP/1.1 103 X\r\nLink: x\r\n\r\n"}[w.Intn(2)] + r.text
	}
	if !bare && w.Intn(12) == 0 && !w.calm {
		r.right = false
		r.text = []string{
			"\n", "HTTP/1.1 101 X\r\n\r\n",
			top + "Content-Length: 1\r\nTransfer-Encoding: chunked\r\n\r\n0\r\n\r\n",
			top[:len("HTTP/1.1")] + " 200 X\r\nX-A: " + r.mark + "\r\nX-Q: " + mark + "\r\nContent-Length: z\r\n\r\n",
			"HTTP/1.1 200 X\r\nX-A: " + r.mark + "\r\nX-Q: " + mark + "\r\nTransfer-Encoding: chunked\r\n\r\n3\r\nabcd\r\n",
			"HTTP/1.1 200 " + strings.Repeat("x", 999),
		}[w.Intn(6)]
	}
	w.told[r.mark] = r
	return r
}

// among are those of a list that are so.
func among[T any](l []T, is func(T) bool) []T {
	var out []T
	for _, x := range l {
		if is(x) {
			out = append(out, x)
		}
	}
	return out
}

// front draws a front of what is to come: often all of it.
func (w *world) front(queue string) []byte {
	n := len(queue)
	if w.Intn(2) == 0 {
		n = 1 + w.Intn(n)
	}
	return []byte(queue[:n])
}

// event draws what happens next.
func (w *world) event() api.Event {
	here := among(w.guests, func(g *guest) bool { return !g.gone })
	wires := among(w.wires, func(x *wire) bool { return !x.gone })
	switch n := w.Intn(100); {
	case n < 12:
		return tick(w.Intn([]int{2, 5, 30}[w.Intn(3)]))
	case n < 20:
		if w.Intn(8) > 0 {
			w.next++
		}
		return open(w.next)
	case n < 45 && len(here) > 0:
		return w.guestEvent(here[w.Intn(len(here))])
	case n < 55 && len(here) > 0:
		return room(here[w.Intn(len(here))].number, w.Intn([]int{2, 50, 20000}[w.Intn(3)]))
	case n < 95 && len(wires) > 0:
		return w.wireEvent(wires[w.Intn(len(wires))])
	case n == 95 && w.Intn(20) == 0 && !w.calm:
		return drain()
	case n > 95 && w.wild:
		return w.nothing()
	}
	return draw(w.Intn(1 << 32))
}

// nothing draws an event that is nothing to the proxy but by chance.
func (w *world) nothing() api.Event {
	e := api.Event{Kind: []int{api.EvBytes, api.EvEnd, api.EvReset, api.EvUp, api.EvRefused, api.EvRoom}[w.Intn(6)], Conn: w.Intn(w.next + 2), N: w.Intn(3)}
	if w.Intn(2) == 0 {
		e.Conn = base + w.Intn(len(w.wires)+2)
	}
	return e
}

func (w *world) guestEvent(g *guest) api.Event {
	if w.Intn(40) == 0 && !w.calm {
		return reset(g.number)
	}
	if g.queue == "" && !g.ended {
		if w.Intn(10) == 0 {
			return ends(g.number)
		}
		for range 1 + w.Intn(3) {
			a := w.drawAsked()
			g.sends = append(g.sends, a)
			g.queue += a.text
		}
	}
	if g.ended {
		return room(g.number, 9)
	}
	return api.Event{Kind: api.EvBytes, Conn: g.number, Bytes: w.front(g.queue)}
}

func (w *world) wireEvent(x *wire) api.Event {
	switch {
	case !x.up && w.Intn(8) == 0 && !w.calm:
		return api.Event{Kind: []int{api.EvRefused, api.EvReset, api.EvEnd}[w.Intn(3)], Conn: x.number}
	case !x.up:
		return api.Event{Kind: api.EvUp, Conn: x.number}
	case x.queue != "":
		return api.Event{Kind: api.EvBytes, Conn: x.number, Bytes: w.front(x.queue)}
	case x.last != 0:
		return api.Event{Kind: x.last, Conn: x.number}
	case w.Intn(10) == 0 && !w.calm:
		if x.isWhole() && w.Intn(2) == 0 {
			return came(x.number, "stray")
		}
		return api.Event{Kind: []int{api.EvEnd, api.EvReset}[w.Intn(2)], Conn: x.number}
	}
	return tick(w.Intn(3))
}

// isWhole tells whether all came that was asked for.
func (x *wire) isWhole() bool {
	return x.reply == nil || !x.reply.byEnd && x.sent >= len(x.reply.text)
}

// play plays an event, and takes note of what is done.
func (w *world) play(e api.Event) {
	now := w.p.Now()
	acts, err := w.p.Step(e)
	if err != api.OK {
		w.t.Fatalf("%v: %v", e, err)
	}
	w.steps = append(w.steps, api.Step{E: e, Acts: acts})
	w.happen(e)
	for _, a := range acts {
		w.do(a)
	}
	if e.Kind == api.EvTick {
		now += e.N
	}
	if w.p.Now() != now {
		w.t.Fatalf("Now: %d; want %d", w.p.Now(), now)
	}
	conns, _ := config.Conns(w.c)
	bytes, _ := config.Buffered(w.c)
	if c, b := w.p.Held(); c > conns || b > bytes || c != w.there() {
		w.t.Fatalf("Held: %d, %d; %d are there", c, b, w.there())
	}
	for _, g := range w.guests {
		if g.waits && now >= g.until {
			w.t.Fatalf("client %d waits at %d, behind %d", g.number, now, g.until)
		}
	}
}

// there is how many connections are there.
func (w *world) there() int {
	return len(among(w.guests, func(g *guest) bool { return !g.gone })) + len(among(w.wires, func(x *wire) bool { return !x.gone }))
}

func (w *world) guest(number int) *guest {
	i := slices.IndexFunc(w.guests, func(g *guest) bool { return g.number == number })
	if i < 0 {
		return nil
	}
	return w.guests[i]
}

func (w *world) wire(number int) *wire {
	if number < base || number >= base+len(w.wires) {
		return nil
	}
	return w.wires[number-base]
}

// happen takes note of an event.
func (w *world) happen(e api.Event) {
	g, x := w.guest(e.Conn), w.wire(e.Conn)
	if e.Kind == api.EvOpen && g == nil {
		w.guests = append(w.guests, &guest{number: e.Conn})
	}
	if g != nil {
		switch e.Kind {
		case api.EvBytes:
			g.queue = g.queue[len(e.Bytes):]
		case api.EvEnd:
			g.ended = true
		case api.EvReset:
			g.gone, g.waits = true, false
		}
	}
	if x != nil && !x.gone {
		x.happen(e)
	}
}

func (x *wire) happen(e api.Event) {
	switch e.Kind {
	case api.EvUp:
		x.up = true
	case api.EvReset:
		x.gone = true
	case api.EvRefused:
		x.gone = !x.up
	case api.EvBytes:
		if x.queue == "" && len(e.Bytes) > 0 {
			x.spoilt = true
			break
		}
		x.queue = x.queue[len(e.Bytes):]
		x.sent += len(e.Bytes)
	case api.EvEnd:
		x.last, x.queue = 0, ""
		if r := x.reply; r != nil && r.byEnd && !r.ended {
			r.ended = true
			r.body = r.body[:max(0, x.sent-(len(r.text)-len(r.body)))]
		}
	}
}

// do takes note of an act.
func (w *world) do(a api.Act) {
	g, x := w.guest(a.Conn), w.wire(a.Conn)
	switch a.Kind {
	case api.AcOpen:
		w.wires = append(w.wires, &wire{number: a.Conn, host: a.Host})
	case api.AcClose:
		if g != nil {
			g.gone, g.waits = true, false
		} else {
			x.gone = true
		}
	case api.AcWrite:
		if g != nil {
			g.got += string(a.Bytes)
		} else {
			w.serve(x, string(a.Bytes))
		}
	case api.AcParsed:
		w.reqs[a.Req] = g.sends[g.parsed].mark
		g.parsed++
		g.waits, g.until = true, a.At
		if a.N >= 0 {
			g.until += w.c.Routes[a.N].Total
		}
	case api.AcTry:
		w.tries[w.reqs[a.Req]] = append(w.tries[w.reqs[a.Req]], a.Host)
	case api.AcAnswer:
		if g.waits && a.At > g.until {
			w.t.Fatalf("client %d is answered at %d, behind %d", g.number, a.At, g.until)
		}
		g.waits = false
		g.told = append(g.told, a)
	}
}

// serve holds what is written to a host against what clients sent (27.4), and draws the host's answer.
func (w *world) serve(x *wire, text string) {
	if r := x.reply; r != nil && (x.spoilt || x.sent != len(r.text) || !r.right || r.byEnd) {
		w.t.Fatalf("to a host: %q, behind %+v", text, r)
	}
	if text == "GET /~probe HTTP/1.1\r\nHost: "+w.c.Hosts[x.host].Name+"\r\nConnection: close\r\n\r\n" {
		w.answer(x, w.drawReply("probe", "GET"))
		return
	}
	h, n, e := head.Parse(true, []byte(text))
	a, ok := w.marks[value(h, "X-Q")]
	if e != api.OK || !ok || a.wrong || a.method != h.Method || value(h, "Via") == "" {
		w.t.Fatalf("to a host: %q, of %v", text, a)
	}
	if b := bodyOf(w.t, h, text[n:]); b != a.body {
		w.t.Fatalf("to a host: %q; its body is %q", text, a.body)
	}
	if !slices.Contains(w.tries[a.mark], x.host) {
		w.t.Fatalf("to host %d: %q, which was tried on %v", x.host, text, w.tries[a.mark])
	}
	w.answer(x, w.drawReply(a.mark, a.method))
}

// answer lets a host begin an answer: all of it, a beginning, or more.
func (w *world) answer(x *wire, r *reply) {
	x.reply, x.queue, x.sent, x.last = r, r.text, 0, 0
	if r.byEnd {
		x.last = api.EvEnd
	}
	if w.calm {
		return
	}
	switch w.Intn(8) {
	case 0:
		x.queue = x.queue[:w.Intn(len(x.queue)+1)]
		x.last = []int{0, api.EvEnd, api.EvReset}[w.Intn(3)]
	case 1:
		x.last = []int{api.EvEnd, api.EvReset}[w.Intn(2)]
	case 2:
		if !r.byEnd {
			x.queue += "more"
		}
	}
}

func value(h api.Head, name string) string {
	for _, f := range h.Fields {
		if f.Name == name {
			return f.Value
		}
	}
	return ""
}

// bodyOf is the body of a request that is written whole, with nothing behind it.
func bodyOf(t *testing.T, h api.Head, rest string) string {
	f, e := framing.Request(h)
	if e != api.OK {
		t.Fatalf("%v: %v", h, e)
	}
	r, _ := body.New(f, 1<<30)
	b, n, _, e := r.Feed([]byte(rest))
	if e != api.OK || n != len(rest) || !r.Whole() {
		t.Fatalf("%v: %q is no whole body: %v", h, rest, e)
	}
	return string(b)
}

// wrote is a response as a client reads it.
type wrote struct {
	h     api.Head
	body  string
	whole bool
	byEnd bool // its body ends with the connection
}

// readBack reads the first response of what was written to a client, and tells what is behind it; false, if its head is not whole.
func readBack(t *testing.T, method, text string) (wrote, string, bool) {
	t.Helper()
	h, n, e := head.Parse(false, []byte(text))
	if e == api.ErrNone {
		return wrote{}, "", false
	}
	if e != api.OK {
		t.Fatalf("to a client: %q: %v", text, e)
	}
	f, e := framing.Response(h, method)
	if e != api.OK {
		t.Fatalf("to a client: %q: %v", text, e)
	}
	r, _ := body.New(f, 1<<30)
	b, m, whole, e := r.Feed([]byte(text[n:]))
	if e != api.OK {
		t.Fatalf("to a client: %q: %v", text, e)
	}
	return wrote{h, string(b), whole, f.Kind == api.FrClose}, text[n+m:], true
}

// read is all that a client read, as far as heads are whole; the last one of them may be cut off.
func (w *world) read(g *guest) []wrote {
	var l []wrote
	rest := g.got
	for i, a := range g.told {
		method := "GET"
		if a.Req >= 0 {
			method = g.sends[i].method
		}
		x, behind, ok := readBack(w.t, method, rest)
		if !ok {
			return l
		}
		l = append(l, x)
		if rest = behind; !x.whole {
			break
		}
	}
	if rest != "" {
		w.t.Fatalf("client %d: %q behind all", g.number, rest)
	}
	return l
}

// looksBack holds what a client read against what it asked for, and what its hosts answered (27.3).
func (w *world) looksBack(g *guest) {
	for i, x := range w.read(g) {
		a := g.told[i]
		if x.h.Status != a.Status {
			w.t.Fatalf("client %d: %v, of %v", g.number, x.h, a)
		}
		if a.Req >= 0 && g.sends[i].wrong {
			w.t.Fatalf("client %d: %v answers %+v", g.number, x.h, g.sends[i])
		}
		switch {
		case a.N == 1:
			w.isReply(g.sends[i], x)
		case x.whole && x.body != "" && x.body != fmt.Sprintf("%d %s\n", a.Status, x.h.Reason):
			w.t.Fatalf("client %d: own answer %v: %q", g.number, x.h, x.body)
		}
	}
}

// isReply holds a response against what a host answered to that request; what was cut off is never ended.
func (w *world) isReply(want asked, x wrote) {
	r := w.told[value(x.h, "X-A")]
	if value(x.h, "X-Q") != want.mark || r == nil {
		w.t.Fatalf("%v answers %v", x.h, want)
	}
	if r.right && (r.status != x.h.Status || !strings.HasPrefix(r.body, x.body)) {
		w.t.Fatalf("%v, %q; the host said %+v", x.h, x.body, r)
	}
	if x.whole && (!r.right || r.body != x.body || r.byEnd && !r.ended) {
		w.t.Fatalf("%v: %q is whole; the host said %+v", x.h, x.body, r)
	}
}

// acts are those of all steps that are so, in their order.
func (w *world) acts(is func(api.Act) bool) []api.Act {
	var l []api.Act
	for _, s := range w.steps {
		l = append(l, among(s.Acts, is)...)
	}
	return l
}
