package trace_test

import (
	"math/rand"
	"slices"
	"testing"

	"headrace/api"
	"headrace/trace"
)

// thing is an event or an act, in the order in which they are.
type thing struct {
	isEvent bool
	e       api.Event
	a       api.Act
}

// model tells by the chapter's words what an act breaks, of all that ever was ahead of it.
type model struct {
	c          api.Config
	began, now int
	things     []thing
}

// happen books an event, with which a step begins.
func (m *model) happen(e api.Event) {
	m.began = m.now
	if e.Kind == api.EvTick && e.N >= 0 {
		m.now = min(m.now+e.N, api.MaxTick)
	}
	m.things = append(m.things, thing{isEvent: true, e: e})
}

func (m *model) do(a api.Act) { m.things = append(m.things, thing{a: a}) }

// acts are those that are as they are to be, in their order.
func (m *model) acts(is func(api.Act) bool) []api.Act {
	var l []api.Act
	for _, x := range m.things {
		if !x.isEvent && is(x.a) {
			l = append(l, x.a)
		}
	}
	return l
}

func (m *model) count(kind, req, n int) int {
	return len(m.acts(func(a api.Act) bool { return a.Kind == kind && a.Req == req && a.N == n }))
}

func (m *model) has(kind, req int) bool {
	return len(m.acts(func(a api.Act) bool { return a.Kind == kind && a.Req == req })) > 0
}

// ends tells whether by a thing a connection is there no longer.
func (x thing) ends(conn int) bool {
	if x.isEvent {
		return x.e.Kind == api.EvReset && x.e.Conn == conn
	}
	return x.a.Kind == api.AcClose && x.a.Conn == conn
}

func (x thing) is(kind, conn int) bool { return x.isEvent && x.e.Kind == kind && x.e.Conn == conn }

// opened is where a client opened; -1, if there was never one.
func (m *model) opened(conn int) int {
	if conn < 0 || conn >= base {
		return -1
	}
	return slices.IndexFunc(m.things, func(x thing) bool { return x.is(api.EvOpen, conn) })
}

func (m *model) client(conn int) bool {
	i := m.opened(conn)
	return i >= 0 && !slices.ContainsFunc(m.things[i:], func(x thing) bool { return x.ends(conn) })
}

// clients are those that are there.
func (m *model) clients() []int {
	var l []int
	for _, x := range m.things {
		if conn := x.e.Conn; x.isEvent && x.e.Kind == api.EvOpen && m.client(conn) && !slices.Contains(l, conn) {
			l = append(l, conn)
		}
	}
	return l
}

// beyond tells whether a client opened when as many were there as there may be.
func (m *model) beyond(conn int) bool {
	ahead := model{c: m.c, things: m.things[:m.opened(conn)]}
	return len(ahead.clients()) >= m.c.Clients
}

// link tells of a host's connection whether it is there, whether it is up, and whose it is.
func (m *model) link(conn int) (bool, bool, int) {
	there, up, host := false, false, 0
	for _, x := range m.things {
		switch {
		case !x.isEvent && x.a.Kind == api.AcOpen && x.a.Conn == conn:
			there, host = true, x.a.Host
		case there && x.is(api.EvUp, conn):
			up = true
		case x.ends(conn), x.is(api.EvRefused, conn) && !up:
			there, up = false, false
		}
	}
	return there, up && there, host
}

// request is an open request's client and route.
func (m *model) request(req int) (int, int, bool) {
	i := slices.IndexFunc(m.things, func(x thing) bool { return !x.isEvent && x.a.Kind == api.AcParsed && x.a.Req == req })
	if i < 0 {
		return 0, 0, false
	}
	a := m.things[i].a
	for _, x := range m.things[i:] {
		if x.ends(a.Conn) || !x.isEvent && x.a.Kind == api.AcDone && x.a.Req == req {
			return 0, 0, false
		}
	}
	return a.Conn, a.N, true
}

// open is a client's open request.
func (m *model) open(conn int) (int, bool) {
	for _, a := range slices.Backward(m.acts(func(a api.Act) bool { return a.Kind == api.AcParsed && a.Conn == conn })) {
		if _, _, ok := m.request(a.Req); ok {
			return a.Req, true
		}
	}
	return 0, false
}

func (m *model) parsed() int {
	return len(m.acts(func(a api.Act) bool { return a.Kind == api.AcParsed }))
}

// off tells whether of two kinds of a host's acts the first one was the last.
func (m *model) off(host, off, on int) bool {
	l := m.acts(func(a api.Act) bool { return (a.Kind == off || a.Kind == on) && a.Host == host })
	return len(l) > 0 && l[len(l)-1].Kind == off
}

func (m *model) ejected() int {
	n := 0
	for i := range m.c.Hosts {
		if m.off(i, api.AcEject, api.AcRestore) {
			n++
		}
	}
	return n
}

// broken is the least rule that an act breaks.
func (m *model) broken(a api.Act) int {
	for i, breaks := range []func(api.Act) bool{m.breaks1, m.breaks2, m.breaks3, m.breaks4, m.breaks5, m.breaks6, m.breaks7, m.breaks8, m.breaks9, m.breaks10, m.breaks11} {
		if breaks(a) {
			return i + 1
		}
	}
	return 0
}

func (m *model) breaks1(a api.Act) bool {
	for _, x := range m.acts(func(api.Act) bool { return true }) {
		if a.At < x.At {
			return true
		}
	}
	return a.At < 0 || a.At < m.began || a.At > m.now
}

func (m *model) isHost(host int) bool { return 0 <= host && host < len(m.c.Hosts) }

func (m *model) isRoute(route int) bool { return 0 <= route && route < len(m.c.Routes) }

func (m *model) breaks2(a api.Act) bool {
	there, up, _ := m.link(a.Conn)
	switch a.Kind {
	case api.AcOpen:
		return a.Conn != base+len(m.acts(func(a api.Act) bool { return a.Kind == api.AcOpen })) || !m.isHost(a.Host)
	case api.AcWrite:
		return !m.client(a.Conn) && !up || len(a.Bytes) == 0
	case api.AcClose:
		return !m.client(a.Conn) && !there
	case api.AcParsed, api.AcAdmit, api.AcAnswer, api.AcDone:
		return !m.client(a.Conn)
	}
	return a.Kind < 1 || a.Kind > 14
}

func (m *model) breaks3(a api.Act) bool {
	switch a.Kind {
	case api.AcOpen:
		n := 1
		for i := base; i < a.Conn; i++ {
			if there, _, host := m.link(i); there && host == a.Host {
				n++
			}
		}
		return n > m.c.Hosts[a.Host].Cap+1
	case api.AcWrite, api.AcParsed, api.AcAdmit, api.AcAnswer, api.AcDone:
		return m.client(a.Conn) && m.beyond(a.Conn)
	}
	return false
}

func (m *model) breaks4(a api.Act) bool {
	_, open := m.open(a.Conn)
	return a.Kind == api.AcParsed && (a.Req != m.parsed() || a.N != -1 && !m.isRoute(a.N) || open)
}

func (m *model) breaks5(a api.Act) bool {
	conn, route, ok := m.request(a.Req)
	admitted, answered := m.has(api.AcAdmit, a.Req), m.has(api.AcAnswer, a.Req)
	switch a.Kind {
	case api.AcAdmit:
		return !ok || conn != a.Conn || route == -1 || route != a.N || admitted || answered
	case api.AcTry:
		if !ok || !admitted || answered || !slices.Contains(m.c.Routes[route].Hosts, a.Host) {
			return true
		}
		most := []int{1, m.c.Routes[route].Retries, m.c.Routes[route].Hedges}
		first := !m.has(api.AcTry, a.Req)
		return a.N < 0 || a.N > 2 || first != (a.N == 0) || m.count(api.AcTry, a.Req, a.N)+1 > most[a.N]
	}
	return false
}

func (m *model) breaks6(a api.Act) bool {
	if a.Kind != api.AcAdmit {
		return false
	}
	r := m.c.Routes[a.N]
	full := r.Burst * r.Per
	level, last := full, 0
	for _, x := range append(m.acts(func(x api.Act) bool { return x.Kind == api.AcAdmit && x.N == a.N }), a) {
		// The span is cut lest the product wrap round: no bucket takes so long to be full.
		level, last = min(full, level+r.Rate*min(x.At-last, 1<<40))-r.Per, x.At
	}
	return level < 0
}

func (m *model) breaks7(a api.Act) bool {
	if a.Kind != api.AcAdmit {
		return false
	}
	n := 1
	for _, x := range m.acts(func(x api.Act) bool { return x.Kind == api.AcAdmit && x.N == a.N }) {
		if _, _, ok := m.request(x.Req); ok {
			n++
		}
	}
	return n > m.c.Routes[a.N].Open
}

// routeOf is a request's route, be it open or not.
func (m *model) routeOf(req int) int {
	return m.acts(func(a api.Act) bool { return a.Kind == api.AcParsed && a.Req == req })[0].N
}

func (m *model) breaks8(a api.Act) bool {
	if a.Kind != api.AcTry || a.N == 0 {
		return false
	}
	i := m.routeOf(a.Req)
	r := m.c.Routes[i]
	late := func(is func(api.Act) bool) int {
		return len(m.acts(func(x api.Act) bool { return is(x) && x.At > a.At-r.Window }))
	}
	requests := late(func(x api.Act) bool { return x.Kind == api.AcAdmit && x.N == i })
	retries := late(func(x api.Act) bool { return x.Kind == api.AcTry && x.N != 0 && m.routeOf(x.Req) == i })
	return retries+1 > r.Min && retries+1 > r.Percent*requests/100
}

func (m *model) breaks9(a api.Act) bool {
	if a.Kind == api.AcBreak || a.Kind == api.AcMend {
		return !m.isRoute(a.N)
	}
	if a.Kind != api.AcTry {
		return false
	}
	i := m.routeOf(a.Req)
	r := m.c.Routes[i]
	probes, few := 0, false
	for _, x := range m.things {
		switch {
		case x.isEvent:
		case x.a.Kind == api.AcBreak && x.a.N == i:
			if a.At < min(x.a.At+r.Cool, api.MaxTick) {
				return true
			}
			probes, few = 0, true
		case x.a.Kind == api.AcMend && x.a.N == i:
			few = false
		case x.a.Kind == api.AcTry && m.routeOf(x.a.Req) == i:
			probes++
		}
	}
	return few && probes+1 > r.Probes
}

func (m *model) breaks10(a api.Act) bool {
	if a.Kind != api.AcTry && (a.Kind < api.AcEject || a.Kind > api.AcHealthy) {
		return false
	}
	if !m.isHost(a.Host) {
		return true
	}
	ejected, down := m.off(a.Host, api.AcEject, api.AcRestore), m.off(a.Host, api.AcDown, api.AcHealthy)
	switch a.Kind {
	case api.AcTry:
		return ejected || down
	case api.AcEject:
		return ejected || 100*(m.ejected()+1) > m.c.Share*len(m.c.Hosts)
	case api.AcRestore:
		return !ejected
	case api.AcDown:
		return down
	}
	return !down
}

func (m *model) breaks11(a api.Act) bool {
	conn, _, ok := m.request(a.Req)
	_, open := m.open(a.Conn)
	ended := len(m.acts(func(x api.Act) bool { return x.Kind == api.AcAnswer && x.Req == -1 && x.Conn == a.Conn })) > 0
	answered := m.has(api.AcAnswer, a.Req)
	switch a.Kind {
	case api.AcParsed:
		return ended
	case api.AcAnswer:
		toNone := a.Req == -1 && !open && a.N == 0
		toOne := ok && conn == a.Conn && !answered
		byOwn := a.N == 0 && slices.Contains(nine, a.Status)
		byHost := a.N == 1 && 200 <= a.Status && a.Status < 600 && m.has(api.AcTry, a.Req)
		return ended || !toNone && !toOne || !byOwn && !byHost
	case api.AcDone:
		return !ok || conn != a.Conn || !answered
	}
	return false
}

// drawConfig draws one whose numbers are so small that its bounds are met.
func drawConfig(r *rand.Rand) api.Config {
	c := plain()
	c.Hosts = c.Hosts[:1+r.Intn(3)]
	for i := range c.Hosts {
		c.Hosts[i].Cap = 1 + r.Intn(2)
	}
	c.Routes = c.Routes[:1+r.Intn(2)]
	for i := range c.Routes {
		x := &c.Routes[i]
		x.Hosts = r.Perm(len(c.Hosts))[:1+r.Intn(len(c.Hosts))]
		x.Rate, x.Per, x.Burst = r.Intn(4), 1+r.Intn(9), r.Intn(9)
		x.Open, x.Cool, x.Probes = 1+r.Intn(4), 1+r.Intn(9), 1+r.Intn(2)
		x.Percent, x.Min, x.Window = []int{0, 50, 100}[r.Intn(3)], r.Intn(4), 1+r.Intn(20)
		x.Retries, x.Hedges = r.Intn(4), r.Intn(3)
	}
	c.Share, c.Clients = []int{0, 40, 100}[r.Intn(3)], 1+r.Intn(4)
	return c
}

// drawer draws a trace's events and acts.
type drawer struct {
	*rand.Rand
	model
}

func newDrawer(r *rand.Rand) *drawer { return &drawer{r, model{c: drawConfig(r)}} }

// among draws one of a list, or now and then any of some numbers.
func (d *drawer) among(l []int, least, most int) int {
	if len(l) == 0 || d.Intn(20) == 0 {
		return least + d.Intn(most-least+1)
	}
	return l[d.Intn(len(l))]
}

// conn draws a client's number, or a host's connection's.
func (d *drawer) conn() int {
	if d.Intn(3) == 0 {
		return base - 1 + d.Intn(3+len(d.acts(func(a api.Act) bool { return a.Kind == api.AcOpen })))
	}
	return d.among(d.clients(), -1, 6)
}

func (d *drawer) event() api.Event {
	e := api.Event{Kind: d.Intn(12), Conn: d.conn(), N: d.Intn(9) - 1}
	switch d.Intn(3) {
	case 0:
		e.Kind = api.EvTick
	case 1:
		e.Kind, e.Conn = api.EvOpen, d.Intn(7)
	}
	if e.Kind == api.EvTick && d.Intn(40) == 0 {
		e.N = api.MaxTick - d.Intn(9)
	}
	return e
}

func (d *drawer) moment() int {
	l := d.acts(func(api.Act) bool { return true })
	least := d.began
	if len(l) > 0 {
		least = max(least, l[len(l)-1].At)
	}
	if d.Intn(60) == 0 {
		return least - 1 + d.Intn(3)
	}
	return least + d.Intn(max(1, min(d.now-least+1, 20)))
}

// act draws one of any kind.
func (d *drawer) act() api.Act {
	a := api.Act{Kind: 1 + d.Intn(14), Conn: d.conn(), Host: d.among([]int{0, 1}, -1, 3), Req: d.parsed() - d.Intn(3), N: d.among([]int{0, 1}, -1, 3)}
	a.Status = d.among(nine, 198, 601)
	if d.Intn(20) > 0 {
		a.Bytes = []byte("x")
	}
	switch {
	case a.Kind == api.AcOpen && d.Intn(10) > 0:
		a.Conn = base + len(d.acts(func(a api.Act) bool { return a.Kind == api.AcOpen }))
	case a.Kind == api.AcBreak || a.Kind == api.AcMend || a.Kind == api.AcEject || a.Kind == api.AcDown:
		// They end so much that few of them are to come.
		if d.Intn(3) > 0 {
			a.Kind = api.AcWrite
		}
	case d.Intn(60) == 0:
		a.Kind = 15 * d.Intn(2)
	}
	return a
}

// onward draws an act by which a client's request may go on.
func (d *drawer) onward() api.Act {
	conn := d.among(d.clients(), 0, 6)
	req, ok := d.open(conn)
	if !ok {
		if d.Intn(40) == 0 {
			return own(conn, -1, 400)
		}
		return parsed(conn, d.parsed(), d.among([]int{0, len(d.c.Routes) - 1}, -1, len(d.c.Routes)))
	}
	route := d.routeOf(req)
	switch d.Intn(6) {
	case 0, 1:
		return admit(conn, req, route)
	case 2, 3:
		kind := d.Intn(3)
		if !d.has(api.AcTry, req) {
			kind = 0
		}
		hosts := d.c.Routes[min(max(route, 0), len(d.c.Routes)-1)].Hosts
		return try(req, d.among(hosts, 0, 2), kind)
	case 4:
		a := own(conn, req, 503)
		if d.has(api.AcTry, req) {
			a.N = d.Intn(2)
		}
		return a
	}
	return done(conn, req)
}

func (d *drawer) candidate() api.Act {
	a := d.onward()
	if d.Intn(4) == 0 {
		a = d.act()
	}
	a.At = d.moment()
	return a
}

// trace draws one; each act that is drawn is one of it, if keep tells so, and behind one of which it tells that it is the last there is no more.
func (d *drawer) trace(keep func(l []api.Step, a api.Act) (bool, bool)) []api.Step {
	var l []api.Step
	for range 5 + d.Intn(15) {
		e := d.event()
		d.happen(e)
		l = append(l, api.Step{E: e})
		step := &l[len(l)-1]
		for range d.Intn(25) {
			a := d.candidate()
			is, last := keep(l, a)
			if is {
				d.do(a)
				step.Acts = append(step.Acts, a)
			}
			if last {
				return l
			}
		}
	}
	return l
}

// 26.1: over many drawn traces the first act that breaks a rule is found, the least rule of it, and its step.
func TestAgainstModel(t *testing.T) {
	r := rand.New(rand.NewSource(26))
	var told [12]int
	for range 3000 {
		d := newDrawer(r)
		rule := 0
		l := d.trace(func(_ []api.Step, a api.Act) (bool, bool) {
			n := d.broken(a)
			// The rules that most acts break are not to be the first ones each time.
			last := n != 0 && told[n] < slices.Min(told[1:])+40
			if last {
				rule = n
			}
			return n == 0 || last, last
		})
		told[rule]++
		step := 0
		if rule != 0 {
			step = len(l) - 1
		}
		check(t, d.c, rule, step, l...)
		if t.Failed() {
			t.Fatalf("%+v", d.c)
		}
	}
	if slices.Min(told[1:]) < 100 {
		t.Errorf("%v traces are too few to tell anything", told)
	}
}

// drawKept draws a trace that breaks no rule by Check's own word.
func drawKept(d *drawer) []api.Step {
	return d.trace(func(l []api.Step, a api.Act) (bool, bool) {
		longer := slices.Clone(l)
		step := &longer[len(longer)-1]
		step.Acts = append(slices.Clip(step.Acts), a)
		rule, _, _ := trace.Check(d.c, longer)
		return rule == 0, false
	})
}

// 26.3: in drawn traces without a broken rule no more are admitted between two moments than the rate says, and no request is tried more often than it may be.
func TestRatesAndTries(t *testing.T) {
	r := rand.New(rand.NewSource(263))
	full, most := 0, 0
	for range 800 {
		d := newDrawer(r)
		l := drawKept(d)
		for i, x := range d.c.Routes {
			var moments []int
			for _, a := range d.acts(func(a api.Act) bool { return a.Kind == api.AcAdmit && a.N == i }) {
				moments = append(moments, a.At)
			}
			for k, from := range moments {
				for _, to := range moments[k:] {
					n, bound := trace.Admitted(l, i, from, to), x.Burst+x.Rate*min(to-from, 1<<40)/x.Per
					if n > bound+1 || n < 1 {
						t.Fatalf("%d of route %d from %d to %d; at most %d: %+v", n, i, from, to, bound, l)
					}
					if n >= bound {
						full++
					}
				}
			}
		}
		for req := range d.parsed() {
			n, x := trace.Tries(l, req), d.c.Routes[max(d.routeOf(req), 0)]
			if bound := x.Retries + x.Hedges + 1; n > bound {
				t.Fatalf("request %d is tried %d times; at most %d: %+v", req, n, bound, l)
			} else if n == bound {
				most++
			}
		}
	}
	if min(full, most) < 100 {
		t.Errorf("%d, %d times are too few to tell anything", full, most)
	}
}

// beginnings are all of a trace, those that end within a step too.
func beginnings(l []api.Step) [][]api.Step {
	all := [][]api.Step{nil}
	for i, step := range l {
		for n := range len(step.Acts) + 1 {
			shorter := slices.Clone(l[:i+1])
			shorter[i].Acts = step.Acts[:n]
			all = append(all, shorter)
		}
	}
	return all
}

// 26.4: no beginning of a drawn trace without a broken rule has one; of one with a broken rule all do that have its act, and no others.
func TestBeginnings(t *testing.T) {
	r := rand.New(rand.NewSource(264))
	kept, broken := 0, 0
	for range 300 {
		d := newDrawer(r)
		for _, l := range beginnings(drawKept(d)) {
			check(t, d.c, 0, 0, l...)
			kept++
		}
		d = newDrawer(r)
		left := 1 + r.Intn(12)
		l := d.trace(func([]api.Step, api.Act) (bool, bool) {
			left--
			return true, left == 0
		})
		rule, step, e := trace.Check(d.c, l)
		if e != api.OK {
			t.Fatal(e)
		}
		found := false
		for _, x := range beginnings(l) {
			n, i, _ := trace.Check(d.c, x)
			if found = found || n != 0; found && (n != rule || i != step) || !found && n+i != 0 {
				t.Fatalf("rule %d, step %d; of a beginning %d, %d: %+v", rule, step, n, i, l)
			}
			if found {
				broken++
			}
		}
		if found != (rule != 0) || t.Failed() {
			t.Fatalf("rule %d: %+v", rule, l)
		}
	}
	if min(kept, broken) < 1000 {
		t.Errorf("%d, %d beginnings are too few to tell anything", kept, broken)
	}
}
