package trace_test

import (
	"math"
	"reflect"
	"slices"
	"testing"

	"headrace/api"
	"headrace/trace"
)

const base = trace.Base

// plain is a configuration of three hosts and two routes whose numbers are small, but those that a test is to set by itself.
func plain() api.Config {
	r := api.Route{Match: api.Match{Prefix: "/"}, Hosts: []int{0, 1}, Rate: 100, Per: 1, Burst: 100, Open: 9, Fails: 1, Cool: 5, Probes: 2, Min: 100, Window: 10, Retries: 3, Hedges: 3, HedgeAfter: 1, PerTry: 1, Total: 1}
	other := r
	other.Prefix, other.Hosts = "/b", []int{2, 1}
	return api.Config{
		Hosts:  []api.Host{{Name: "a", Cap: 1}, {Name: "b", Cap: 2}, {Name: "c", Cap: 1}},
		Routes: []api.Route{r, other}, Timeout: 1, Up: 1, Down: 1, Base: 1, Longest: 1, Share: 100,
		MaxHead: 16, MaxOut: 1, HeadTime: 1, Idle: 1, Life: 1, Clients: 9,
	}
}

// with is the plain configuration with something set.
func with(set func(c *api.Config)) api.Config {
	c := plain()
	set(&c)
	return c
}

func event(kind, conn int, acts ...api.Act) api.Step {
	return api.Step{E: api.Event{Kind: kind, Conn: conn}, Acts: acts}
}

func opens(conn int, acts ...api.Act) api.Step { return event(api.EvOpen, conn, acts...) }

func comes(acts ...api.Act) api.Step { return event(api.EvBytes, 1, acts...) }

func ticks(n int, acts ...api.Act) api.Step {
	return api.Step{E: api.Event{Kind: api.EvTick, N: n}, Acts: acts}
}

// at are acts at a moment.
func at(now int, acts ...api.Act) []api.Act {
	l := slices.Clone(acts)
	for i := range l {
		l[i].At = now
	}
	return l
}

// ask asks for the n-th connection to a host.
func ask(n, host int) api.Act { return api.Act{Kind: api.AcOpen, Conn: base + n, Host: host} }

func put(conn int) api.Act {
	return api.Act{Kind: api.AcWrite, Conn: conn, Bytes: []byte("x")}
}

func shut(conn int) api.Act { return api.Act{Kind: api.AcClose, Conn: conn} }

func parsed(conn, req, route int) api.Act {
	return api.Act{Kind: api.AcParsed, Conn: conn, Req: req, N: route}
}

func admit(conn, req, route int) api.Act {
	return api.Act{Kind: api.AcAdmit, Conn: conn, Req: req, N: route}
}

func try(req, host, kind int) api.Act {
	return api.Act{Kind: api.AcTry, Host: host, Req: req, N: kind}
}

func own(conn, req, status int) api.Act {
	return api.Act{Kind: api.AcAnswer, Conn: conn, Req: req, Status: status}
}

func relayed(conn, req, status int) api.Act {
	return api.Act{Kind: api.AcAnswer, Conn: conn, Req: req, Status: status, N: 1}
}

func done(conn, req int) api.Act { return api.Act{Kind: api.AcDone, Conn: conn, Req: req} }

func ofHost(kind, host int) api.Act   { return api.Act{Kind: kind, Host: host} }
func ofRoute(kind, route int) api.Act { return api.Act{Kind: kind, N: route} }

// begun are acts by which a request of route 0 is parsed, admitted and tried.
func begun(conn, req int) []api.Act {
	return []api.Act{parsed(conn, req, 0), admit(conn, req, 0), try(req, 0, 0)}
}

// whole are acts by which a request of route 0 is parsed, admitted and answered.
func whole(conn, req int) []api.Act {
	return []api.Act{parsed(conn, req, 0), admit(conn, req, 0), own(conn, req, 503), done(conn, req)}
}

// row is acts one behind the other; each part is an act or a list of them.
func row(parts ...any) []api.Act {
	var l []api.Act
	for _, x := range parts {
		switch y := x.(type) {
		case api.Act:
			l = append(l, y)
		case []api.Act:
			l = append(l, y...)
		}
	}
	return l
}

// check looks at which rule a trace breaks first, and in which step; 0 and 0: none.
func check(t *testing.T, c api.Config, rule, step int, l ...api.Step) {
	t.Helper()
	if n, i, e := trace.Check(c, l); n != rule || i != step || e != api.OK {
		t.Errorf("Check: rule %d, step %d, %v; want %d, %d: %+v", n, i, e, rule, step, l)
	}
}

// keeps looks at a trace of which no act breaks a rule, nor of its beginnings.
func keeps(t *testing.T, c api.Config, l ...api.Step) {
	t.Helper()
	for n := range len(l) + 1 {
		check(t, c, 0, 0, l[:n]...)
	}
}

// breaks looks at a trace whose last act breaks a rule, and which keeps all without it.
func breaks(t *testing.T, c api.Config, rule int, l ...api.Step) {
	t.Helper()
	last := len(l) - 1
	check(t, c, rule, last, l...)
	shorter := slices.Clone(l)
	shorter[last].Acts = shorter[last].Acts[:len(shorter[last].Acts)-1]
	keeps(t, c, shorter...)
	// What comes behind it changes nothing.
	check(t, c, rule, last, append(shorter[:last:last], l[last], event(api.EvDrain, 0, api.Act{At: -1}))...)
}

// 26.1: a configuration that is not right is told ahead of all else.
func TestConfig(t *testing.T) {
	long := make([]api.Step, api.MaxEvents+1)
	for _, c := range []api.Config{
		{},
		with(func(c *api.Config) { c.Hosts = nil }),
		with(func(c *api.Config) { c.Routes[1].Hosts = []int{3} }),
		with(func(c *api.Config) { c.Clients = 0 }),
	} {
		for _, l := range [][]api.Step{nil, {}, {comes(api.Act{})}, long} {
			if n, i, e := trace.Check(c, l); n != 0 || i != 0 || e != api.ErrConfig {
				t.Errorf("%d, %d, %v", n, i, e)
			}
		}
	}
	keeps(t, plain())
}

// 26.1: MaxEvents steps and acts, and one more.
func TestLong(t *testing.T) {
	c := plain()
	steps := func(n int) []api.Step { return make([]api.Step, n) }
	acts := func(n int) []api.Act {
		return slices.Repeat([]api.Act{put(1)}, n)
	}
	check(t, c, 0, 0, steps(api.MaxEvents)...)
	check(t, c, 0, 0, opens(1, acts(api.MaxEvents)...))
	check(t, c, 2, api.MaxEvents-1, append(steps(api.MaxEvents-1), comes(put(1)))...)
	for name, l := range map[string][]api.Step{
		"steps":             steps(api.MaxEvents + 1),
		"broken, and steps": append([]api.Step{comes(put(1))}, steps(api.MaxEvents)...),
		"acts":              {opens(1, acts(api.MaxEvents+1)...)},
		"broken, and acts":  {comes(put(1)), opens(1), comes(acts(api.MaxEvents + 1)...)},
		"acts at the end":   append(steps(api.MaxEvents-1), comes(acts(api.MaxEvents+1)...)),
	} {
		if n, i, e := trace.Check(c, l); n != 0 || i != 0 || e != api.ErrLong {
			t.Errorf("%s: %d, %d, %v", name, n, i, e)
		}
	}
}

// 26.1: of many acts that break rules the first one counts, and its step; of the rules that one act breaks the least.
func TestFirstAndLeast(t *testing.T) {
	c := with(func(c *api.Config) { c.Routes[0].Retries, c.Routes[0].Min, c.Clients = 1, 0, 1 })
	check(t, c, 11, 1, opens(1), comes(parsed(1, 0, 0), done(1, 0), put(7)), comes(api.Act{At: -1}))
	check(t, c, 2, 2, opens(1), comes(parsed(1, 0, 0)), comes(put(7), done(1, 0)))
	check(t, c, 4, 2, opens(1), comes(), comes(parsed(1, 5, 0), put(7)))
	for _, x := range []struct {
		name string
		rule int
		l    []api.Step
	}{
		{"1 and 2", 1, []api.Step{comes(at(1, put(7))...)}},
		{"1 and 2, a kind that is none", 1, []api.Step{comes(api.Act{Kind: 99, At: 1})}},
		{"2 and 3", 2, []api.Step{opens(1), comes(ask(0, 0), ask(1, 0), ask(3, 0))}},
		{"2 and 4", 2, []api.Step{comes(parsed(1, 7, 9))}},
		{"2 and 11", 2, []api.Step{comes(done(1, 0))}},
		{"3 and 4", 3, []api.Step{opens(0), opens(1, parsed(1, 5, 0))}},
		{"3 and 5", 3, []api.Step{opens(0), opens(1, admit(1, 0, 0))}},
		{"4 and 11", 4, []api.Step{opens(1), comes(own(1, -1, 400), parsed(1, 1, 0))}},
		{"5 and 8", 5, []api.Step{opens(1), comes(row(begun(1, 0), try(0, 2, 1))...)}},
		{"5 and 9", 5, []api.Step{opens(1), comes(parsed(1, 0, 0), admit(1, 0, 0), ofRoute(api.AcBreak, 0), try(0, 2, 0))}},
		{"5 and 10", 5, []api.Step{opens(1), comes(parsed(1, 0, 0), admit(1, 0, 0), try(0, -1, 0))}},
		{"8 and 9", 8, []api.Step{opens(1), comes(row(begun(1, 0), ofRoute(api.AcBreak, 0), try(0, 0, 1))...)}},
		{"8 and 10", 8, []api.Step{opens(1), comes(row(begun(1, 0), ofHost(api.AcDown, 0), try(0, 0, 2))...)}},
		{"9 and 10", 9, []api.Step{opens(1), comes(parsed(1, 0, 0), admit(1, 0, 0), ofRoute(api.AcBreak, 0), ofHost(api.AcEject, 0), try(0, 0, 0))}},
	} {
		breaks(t, c, x.rule, x.l...)
		if t.Failed() {
			t.Fatal(x.name)
		}
	}
	c = with(func(c *api.Config) { c.Routes[0].Burst, c.Routes[0].Rate, c.Routes[0].Open = 1, 0, 1 })
	breaks(t, c, 6, opens(1), opens(2), comes(row(parsed(1, 0, 0), admit(1, 0, 0), parsed(2, 1, 0), admit(2, 1, 0))...))
	breaks(t, c, 5, opens(1), comes(row(parsed(1, 0, 0), admit(1, 0, 0), admit(1, 0, 0))...))
}

// 26.2: how many are admitted of a route from one moment to another, of any steps.
func TestAdmitted(t *testing.T) {
	l := []api.Step{
		comes(at(3, admit(1, 0, 0), admit(1, 1, 1), admit(9, 0, 0))...),
		{},
		ticks(9, at(5, admit(1, 2, 0), parsed(1, 3, 0), try(0, 0, 0), ofRoute(api.AcBreak, 0))...),
		comes(at(4, admit(1, 4, 0), admit(1, 4, -1))...),
		comes(at(-2, admit(1, 5, 7))...),
		comes(at(math.MaxInt, admit(1, 5, 7))...),
	}
	for _, x := range []struct{ route, from, to, want int }{
		{0, 3, 5, 4}, {0, 3, 4, 3}, {0, 4, 5, 2}, {0, 4, 4, 1}, {0, 0, 2, 0}, {0, 6, 99, 0}, {0, 5, 3, 0},
		{0, math.MinInt, math.MaxInt, 4}, {1, 3, 3, 1}, {1, 4, 9, 0}, {-1, 4, 4, 1}, {2, 0, 99, 0},
		{7, -2, -2, 1}, {7, math.MinInt, math.MaxInt, 2}, {7, -1, math.MaxInt, 1}, {math.MinInt, 0, 9, 0},
	} {
		if n := trace.Admitted(l, x.route, x.from, x.to); n != x.want {
			t.Errorf("Admitted(%d, %d, %d): %d; want %d", x.route, x.from, x.to, n, x.want)
		}
	}
	long := make([]api.Step, api.MaxEvents+2)
	long[api.MaxEvents+1] = comes(slices.Repeat([]api.Act{admit(0, 0, 0)}, api.MaxEvents+1)...)
	if n := trace.Admitted(long, 0, 0, 0); n != api.MaxEvents+1 {
		t.Errorf("Admitted: %d", n)
	}
	if n := trace.Admitted(nil, 0, 0, 9); n != 0 {
		t.Errorf("Admitted: %d", n)
	}
}

// 26.2: how many attempts of a request there are, of any steps.
func TestTries(t *testing.T) {
	l := []api.Step{
		comes(at(3, try(0, 0, 0), try(1, 9, 9), admit(1, 0, 0), try(0, 1, 0))...),
		{},
		ticks(-5, at(-9, try(0, 0, 2), try(-1, 0, 0), parsed(1, 0, 0))...),
	}
	for req, want := range map[int]int{0: 3, 1: 1, -1: 1, 2: 0, math.MaxInt: 0, math.MinInt: 0} {
		if n := trace.Tries(l, req); n != want {
			t.Errorf("Tries(%d): %d; want %d", req, n, want)
		}
	}
	long := make([]api.Step, api.MaxEvents+2)
	long[api.MaxEvents+1] = comes(slices.Repeat([]api.Act{try(7, 0, 0)}, api.MaxEvents+1)...)
	if n := trace.Tries(long, 7); n != api.MaxEvents+1 {
		t.Errorf("Tries: %d", n)
	}
	if n := trace.Tries(nil, 0); n != 0 {
		t.Errorf("Tries: %d", n)
	}
}

// R3, R6: what is handed in stays as it was, spare room too, and the same is told again.
func TestHandedInStays(t *testing.T) {
	made := func() (api.Config, []api.Step) {
		c := plain()
		l := make([]api.Step, 0, 9)
		l = append(l, opens(1), comes(row(begun(1, 0), ask(0, 0), put(1), try(0, 1, 1), ofHost(api.AcEject, 2))...))
		return c, append(l, comes(relayed(1, 0, 200), done(1, 0), ofRoute(api.AcBreak, 1), api.Act{}))
	}
	c, l := made()
	wantC, want := made()
	for range 3 {
		check(t, c, 2, 2, l...)
		trace.Admitted(l, 0, 0, 9)
		trace.Tries(l, 0)
		if !reflect.DeepEqual(c, wantC) || !reflect.DeepEqual(l[:cap(l)], want[:cap(want)]) {
			t.Fatalf("they became %+v, %+v", c, l)
		}
	}
	check(t, c, 0, 0, l[:2]...)
}
