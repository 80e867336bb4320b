package route_test

import (
	"math/rand"
	"reflect"
	"slices"
	"strings"
	"testing"

	"headrace/api"
	"headrace/config"
	"headrace/route"
)

// with is a right configuration whose routes have these matches.
func with(matches ...api.Match) api.Config {
	c := api.Config{
		Hosts:   []api.Host{{Name: "a", Cap: 1}},
		Timeout: 1, Up: 1, Down: 1, Base: 1, Longest: 1, MaxHead: 16, MaxOut: 1, HeadTime: 1, Idle: 1, Life: 1, Clients: 1,
	}
	for _, m := range matches {
		c.Routes = append(c.Routes, api.Route{Match: m, Hosts: []int{0}, Per: 1, Open: 1, Cool: 1, Probes: 1, Window: 1, HedgeAfter: 1, PerTry: 1, Total: 1})
	}
	return c
}

func finds(t *testing.T, c api.Config, h api.Head, want int) {
	t.Helper()
	if i, e := route.Find(c, h); i != want || e != api.OK {
		t.Errorf("Find(%s, %s): %d, %v; want %d", short(matches(c)), short(h), i, e, want)
	}
}

func findFails(t *testing.T, c api.Config, h api.Head, want api.Errno) {
	t.Helper()
	if i, e := route.Find(c, h); i != 0 || e != want {
		t.Errorf("Find(%s, %s): %d, %v; want %v", short(matches(c)), short(h), i, e, want)
	}
}

// matches are those of a configuration's routes.
func matches(c api.Config) []api.Match {
	var l []api.Match
	for _, r := range c.Routes {
		l = append(l, r.Match)
	}
	return l
}

// asks is a request for a host and a path.
func asks(host, path string) api.Head { return request("GET", path, "Host", host) }

// 14.2: the chapter's examples.
func TestFindExamples(t *testing.T) {
	c := with(api.Match{Prefix: "/"}, api.Match{Prefix: "/a"})
	finds(t, c, asks("h", "/a/b"), 1)
	finds(t, c, asks("h", "/ab"), 0)
	finds(t, with(api.Match{Host: "*.com", Prefix: "/"}, api.Match{Host: "h.com", Prefix: "/"}), asks("h.com", "/"), 1)
}

// inAllOrders calls with each order of some matches, and with where each of them stands.
func inAllOrders(l []api.Match, call func(l []api.Match, at []int)) {
	var orders func(rest, taken []int)
	orders = func(rest, taken []int) {
		if len(rest) > 0 {
			for i := range rest {
				orders(slices.Concat(rest[:i], rest[i+1:]), append(slices.Clone(taken), rest[i]))
			}
			return
		}
		order, at := make([]api.Match, len(l)), make([]int, len(l))
		for place, i := range taken {
			order[place], at[i] = l[i], place
		}
		call(order, at)
	}
	all := make([]int, len(l))
	for i := range all {
		all[i] = i
	}
	orders(all, nil)
}

// 14.2: the best of several, wherever they stand: by the host, then by the longest T, then without a host; by the longest prefix.
func TestFindBest(t *testing.T) {
	l := []api.Match{
		{Host: "b.c.d", Prefix: "/"}, {Host: "*.c.d", Prefix: "/a"}, {Host: "*.d", Prefix: "/a/b"}, {Host: "*.d", Prefix: "/a"}, {Prefix: "/a/b/c"}, {Prefix: "/"},
	}
	inAllOrders(l, func(order []api.Match, at []int) {
		c := with(order...)
		for _, x := range []struct {
			host, path string
			want       int
		}{
			{"b.c.d", "/a/b/c", 0}, {"b.c.d", "/", 0}, {"x.c.d", "/a/b/c", 1}, {"x.b.c.d", "/a", 1}, {"c.d", "/a/b/c", 2}, {"x.d", "/a/b", 2}, {"x.d", "/a/c", 3}, {"d", "/a/b/c", 4}, {"d", "/a/b", 5},
			{"x.c.d", "/b", 5}, {"x.d", "/ab", 5}, {"e", "/a/b/cd", 5}, {"B.C.D:80", "/a", 0},
		} {
			finds(t, c, asks(x.host, x.path), at[x.want])
		}
	})
}

// 14.2: a host that is named counts ahead of *., even where it begins with *. itself; *. alone stands for what ends with a dot.
func TestFindStars(t *testing.T) {
	inAllOrders([]api.Match{{Host: "*.com", Prefix: "/"}, {Host: "*.*.com", Prefix: "/a"}, {Host: "*.", Prefix: "/"}, {Prefix: "/a/b"}}, func(order []api.Match, at []int) {
		c := with(order...)
		finds(t, c, asks("*.com", "/a/b"), at[0])
		finds(t, c, asks("x.com", "/a/b"), at[0])
		finds(t, c, asks("x.*.com", "/a/b"), at[1])
		finds(t, c, asks("x.*.com", "/b"), at[0])
		finds(t, c, asks("*.*.com", "/a"), at[1])
		finds(t, c, asks("com.", "/a/b"), at[2])
		finds(t, c, asks("*.", "/a/b"), at[2])
		finds(t, c, asks(".", "/a/b"), at[3])
		findFails(t, c, asks("com", "/a"), api.ErrNone)
	})
}

// 14.2: of those that are alike the first.
func TestFindFirst(t *testing.T) {
	for _, m := range []api.Match{{Prefix: "/a"}, {Host: "h.i", Prefix: "/a"}, {Host: "*.i", Prefix: "/a"}} {
		for n := 1; n <= 15; n++ {
			c := with(append([]api.Match{{Prefix: "/"}}, slices.Repeat([]api.Match{m}, n)...)...)
			finds(t, c, asks("h.i", "/a/b"), 1)
		}
	}
	// Methods and fields make none better.
	plain, exact := api.Match{Prefix: "/"}, api.Match{Prefix: "/", Methods: []string{"GET"}, Header: "X", Value: "1"}
	h := request("GET", "/", "Host", "h", "x", "1")
	finds(t, with(plain, exact), h, 0)
	finds(t, with(exact, plain), h, 0)
	finds(t, with(exact, plain), asks("h", "/"), 1)
}

// 14.2: methods and fields that fit, and that do not.
func TestFindOthers(t *testing.T) {
	c := with(
		api.Match{Host: "h", Prefix: "/a", Methods: []string{"PUT", "POST"}}, api.Match{Host: "h", Prefix: "/", Header: "X-Q", Value: "1, 2"},
		api.Match{Prefix: "/a", Header: "x-q", Value: "1"}, api.Match{Prefix: "/", Methods: []string{"GET", "OPTIONS"}},
	)
	finds(t, c, request("PUT", "/a", "Host", "h"), 0)
	finds(t, c, request("POST", "/a", "Host", "h", "X-Q", "1, 2"), 0)
	finds(t, c, request("GET", "/a", "Host", "h", "X-Q", "1", "x-Q", "2"), 1)
	finds(t, c, request("GET", "/a", "Host", "h", "X-Q", "1"), 2)
	finds(t, c, request("GET", "/a", "Host", "h", "X-Q", "2"), 3)
	finds(t, c, request("OPTIONS", "*", "Host", "h"), 3)
	finds(t, c, request("GET", "http://h/a", "Host", "i", "X-Q", "1, 2"), 1)
	finds(t, c, request("GET", "http://i/a", "Host", "h", "X-Q", "1, 2"), 3)
	finds(t, c, request("GET", "/b/../a/./", "Host", "i", "X-Q", "1"), 2)
	findFails(t, c, request("put", "/a", "Host", "h"), api.ErrNone)
	findFails(t, c, request("PUT", "/b", "Host", "h"), api.ErrNone)
	findFails(t, c, request("PUT", "/a/../b", "Host", "h"), api.ErrNone)
	findFails(t, c, request("PUT", "/ab", "Host", "h"), api.ErrNone)
}

// 14.2: without a host a route without one alone takes a request; that of the asterisk form is for /.
func TestFindNoHost(t *testing.T) {
	h := old(request("OPTIONS", "*"))
	finds(t, with(api.Match{Host: "h", Prefix: "/"}, api.Match{Host: "*.h", Prefix: "/"}, api.Match{Host: "*.", Prefix: "/"}, api.Match{Prefix: "/a"}, api.Match{Prefix: "/"}), h, 4)
	findFails(t, with(api.Match{Host: "h", Prefix: "/"}, api.Match{Host: "*.h", Prefix: "/"}, api.Match{Prefix: "/a"}), h, api.ErrNone)
	finds(t, with(api.Match{Host: "h", Prefix: "/"}, api.Match{Prefix: "/"}), old(request("GET", "/x")), 1)
	finds(t, with(api.Match{Host: "h", Prefix: "/"}, api.Match{Prefix: "/"}), old(asks("h", "/x")), 0)
}

// 14.2: each error, ahead of those that the chapter names behind it.
func TestFindWrong(t *testing.T) {
	good, nobody := with(api.Match{Prefix: "/"}), with(api.Match{Host: "nobody", Prefix: "/"})
	response := asks("h", "/")
	response.Request = false
	for _, x := range []struct {
		h    api.Head
		want api.Errno
	}{
		{response, api.ErrArg}, {api.Head{}, api.ErrArg}, {asks("h", "/"+strings.Repeat("a", api.MaxLine)), api.ErrLong}, {asks("h", "*"), api.ErrTarget}, {request("CONNECT", "a:1", "Host", "h"), api.ErrTarget}, {request("CONNECT", "a"), api.ErrPort},
		{request("GET", "/"), api.ErrHost}, {request("GET", "/", "Host", "h", "Host", "h"), api.ErrHost}, {asks("", "/"), api.ErrHost}, {asks("h:x", "/"), api.ErrPort}, {request("GET", "http://:1/"), api.ErrHost}, {request("GET", "http://a:x/"), api.ErrPort},
	} {
		findFails(t, good, x.h, x.want)
		findFails(t, nobody, x.h, x.want)
		for _, c := range wrongs() {
			findFails(t, c, x.h, api.ErrConfig)
		}
	}
	findFails(t, nobody, asks("h", "/"), api.ErrNone)
	for _, c := range wrongs() {
		findFails(t, c, asks("h", "/"), api.ErrConfig)
	}
}

// wrongs are configurations that are not right, though a route takes all.
func wrongs() []api.Config {
	good := func() api.Config { return with(api.Match{Prefix: "/"}, api.Match{Prefix: "/a"}) }
	l := []api.Config{{}, with(), with(slices.Repeat([]api.Match{{Prefix: "/"}}, 17)...)}
	for _, change := range []func(c *api.Config){
		func(c *api.Config) { c.Clients = 0 }, func(c *api.Config) { c.Hosts = nil }, func(c *api.Config) { c.Every = 1 }, func(c *api.Config) { c.Routes[1].Per = 0 }, func(c *api.Config) { c.Routes[1].Prefix = "" },
		func(c *api.Config) { c.Routes[1].Host = "A" }, func(c *api.Config) { c.Routes[1].Hosts = []int{1} }, func(c *api.Config) { c.Routes[1].Value = "v" },
	} {
		c := good()
		change(&c)
		l = append(l, c)
	}
	return l
}

// modelBetter tells by the chapter's words, one behind the other, whether a match is better than another, where both take a request of a host.
func modelBetter(a, b api.Match, host string) bool {
	class := func(m api.Match) int {
		switch {
		case m.Host == host && host != "":
			return 3
		case m.Host != "":
			return 2
		}
		return 1
	}
	if class(a) != class(b) {
		return class(a) > class(b)
	}
	if class(a) == 2 && len(a.Host) != len(b.Host) {
		return len(a.Host) > len(b.Host)
	}
	return len(a.Prefix) > len(b.Prefix)
}

func oneOf(r *rand.Rand, l ...string) string { return l[r.Intn(len(l))] }

// drawnMatch is a match that is drawn, of what means something to drawnRequest.
func drawnMatch(r *rand.Rand) api.Match {
	m := api.Match{
		Host:   oneOf(r, "", "", "c", "b.c", "a.b.c", "*.c", "*.c", "*.b.c", "*.a.b.c", "*.", "*.*.c"),
		Prefix: oneOf(r, "/", "/", "/", "/a", "/a/", "/a/b", "/a/b/", "/ab", "//"),
	}
	switch r.Intn(4) {
	case 0:
		m.Methods = []string{"GET"}
	case 1:
		m.Methods = []string{"PUT", "OPTIONS", "GET"}
	}
	if r.Intn(4) == 0 {
		m.Header, m.Value = "X-Q", oneOf(r, "", "1", "1, 2")
	}
	return m
}

// drawnRequest is a request that is drawn.
func drawnRequest(r *rand.Rand) api.Head {
	host := oneOf(r, "c", "b.c", "a.b.c", "x.a.b.c", "x.c", "C:80", "c.", "*.c", ".c", "x.*.c", "d")
	path := oneOf(r, "/", "/a", "/a/", "/a/b", "/a/b/c", "/ab", "/a/./b/", "/a/../ab", "//", "/c?/a", "/A")
	h := request(oneOf(r, "GET", "GET", "PUT", "OPTIONS", "POST"), path)
	switch r.Intn(6) {
	case 0:
		h.Target = "http://" + host + path
	case 1:
		h.Method, h.Target = "OPTIONS", "*"
		fallthrough
	default:
		h.Fields = list("Host", host)
	}
	if r.Intn(6) == 0 {
		h = old(h)
		h.Fields = nil
	}
	for range r.Intn(3) {
		h.Fields = append(h.Fields, api.Field{Name: oneOf(r, "X-Q", "x-q", "Y"), Value: oneOf(r, "1", "2", "")})
	}
	return h
}

// 14.3: the route that is found takes the request, and none that takes it is better, nor as good and ahead of it; without one that takes it none is found.
func TestFindModel(t *testing.T) {
	r := rand.New(rand.NewSource(14))
	found := 0
	for range 60000 {
		var l []api.Match
		for range 1 + r.Intn(8) {
			l = append(l, drawnMatch(r))
		}
		c, h := with(l...), drawnRequest(r)
		host, path, e := route.Place(h)
		if e != api.OK || config.Check(c) != api.OK {
			t.Fatalf("%v, %v: %v", l, h, e)
		}
		want := -1
		for i, m := range l {
			if route.Takes(m, h, host, path) && (want < 0 || modelBetter(m, l[want], host)) {
				want = i
			}
		}
		if want < 0 {
			findFails(t, c, h, api.ErrNone)
		} else {
			found++
			finds(t, c, h, want)
		}
		if t.Failed() {
			return
		}
	}
	if found < 10000 {
		t.Errorf("only %d were found", found)
	}
}

// 14.3: a route that takes nothing changes nothing but numbers, wherever it is put.
func TestFindBesideNothing(t *testing.T) {
	r := rand.New(rand.NewSource(143))
	nothing := []api.Match{{Host: "nobody", Prefix: "/"}, {Prefix: "/nowhere"}, {Prefix: "/", Methods: []string{"NEVER"}}, {Prefix: "/", Header: "X-None", Value: ""}, {Host: "*.nobody", Prefix: "/a/b/c/d/e"}, {Host: "a.b.c", Prefix: "/a/b/c/", Methods: []string{"get"}}}
	for range 4000 {
		var l []api.Match
		for range r.Intn(6) {
			l = append(l, drawnMatch(r))
		}
		h := drawnRequest(r)
		beside := nothing[r.Intn(len(nothing))]
		n, e := 0, api.ErrNone
		if len(l) > 0 {
			n, e = route.Find(with(l...), h)
		}
		for at := range len(l) + 1 {
			c := with(slices.Insert(slices.Clone(l), at, beside)...)
			switch {
			case e != api.OK:
				findFails(t, c, h, e)
			case at <= n:
				finds(t, c, h, n+1)
			default:
				finds(t, c, h, n)
			}
		}
		if t.Failed() {
			return
		}
	}
}

// R3, R6: what is handed in is not changed, nor the room behind its lists; the same is told again.
func TestStays(t *testing.T) {
	handed := func() (api.Config, api.Head) {
		c := with(api.Match{Prefix: "/a", Methods: []string{"GET", "PUT", "BEHIND"}}, api.Match{Host: "*.h", Prefix: "/", Methods: []string{"PUT", "GET", "BEHIND"}}, api.Match{Prefix: "/behind", Methods: []string{"BEHIND"}})
		return c, request("GET", "/a/../A", "Host", "X.h:1", "X-A", "1", "behind", "2")
	}
	c, h := handed()
	in, asked := c, h
	in.Routes, asked.Fields = in.Routes[:2], asked.Fields[:2]
	for i := range in.Routes {
		in.Routes[i].Methods = in.Routes[i].Methods[:2]
	}
	for range 3 {
		finds(t, in, asked, 1)
		place(t, asked, "x.h", "/A")
		takes(t, in.Routes[1].Match, asked, "x.h", "/A", true)
		takes(t, in.Routes[0].Match, asked, "x.h", "/A", false)
	}
	for i := range in.Routes {
		in.Routes[i].Methods = in.Routes[i].Methods[:3]
	}
	wantC, wantH := handed()
	if !reflect.DeepEqual(c, wantC) || !reflect.DeepEqual(h, wantH) {
		t.Errorf("%+v, %+v became %+v, %+v", wantC, wantH, c, h)
	}
}

// P1: Place, Takes and Find end without a panic, whatever bytes they are told.
func TestAnyBytes(t *testing.T) {
	r := rand.New(rand.NewSource(141))
	text := func() string {
		switch r.Intn(4) {
		case 0:
			return oneOf(r, "", "/", "*", "*.", "/a?b", "http://a", "a:1", "CONNECT", "OPTIONS", "GET", "Host", "h")
		case 1:
			b := make([]byte, r.Intn(20))
			r.Read(b)
			return string(b)
		}
		var b strings.Builder
		for range r.Intn(12) {
			b.WriteString(oneOf(r, "/", ".", "*", ":", "a", "%", "[", "]", "?", "http://", "1", " "))
		}
		return b.String()
	}
	for range 40000 {
		h := api.Head{Request: r.Intn(8) > 0, Method: text(), Target: text(), Minor: r.Intn(4) - 1}
		for range r.Intn(4) {
			h.Fields = append(h.Fields, api.Field{Name: text(), Value: text()})
		}
		m := api.Match{Host: text(), Prefix: text(), Header: text(), Value: text()}
		for range r.Intn(3) {
			m.Methods = append(m.Methods, text())
		}
		host, path, e := route.Place(h)
		if e != api.OK && (host != "" || path != "") || e == api.OK && !strings.HasPrefix(path, "/") {
			t.Fatalf("Place(%+v): %q, %q, %v", h, host, path, e)
		}
		taken := route.Takes(m, h, host, path)
		if taken && !route.Covers(m.Prefix, path) {
			t.Fatalf("Takes(%+v, %+v)", m, h)
		}
		c := with(m)
		n, f := route.Find(c, h)
		want := api.OK
		switch {
		case config.Check(c) != api.OK:
			want = api.ErrConfig
		case e != api.OK:
			want = e
		case !taken:
			want = api.ErrNone
		}
		if n != 0 || f != want {
			t.Fatalf("Find(%+v, %+v): %d, %v; want %v", m, h, n, f, want)
		}
	}
}
