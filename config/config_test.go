package config_test

import (
	"math"
	"reflect"
	"slices"
	"strconv"
	"strings"
	"testing"

	"headrace/api"
	"headrace/config"
)

// host is a right host.
func host(name string) api.Host { return api.Host{Name: name, Cap: 1} }

// way is a right route to some hosts.
func way(hosts ...int) api.Route {
	return api.Route{Match: api.Match{Prefix: "/"}, Hosts: hosts, Per: 1, Open: 1, Cool: 1, Probes: 1, Window: 1, HedgeAfter: 1, PerTry: 1, Total: 1}
}

// little is a right configuration whose numbers are the least that they may be.
func little() api.Config {
	return api.Config{
		Hosts: []api.Host{host("a")}, Routes: []api.Route{way(0)},
		Timeout: 1, Up: 1, Down: 1, Base: 1, Longest: 1,
		MaxHead: 16, MaxOut: 1, HeadTime: 1, Idle: 1, Life: 1, Clients: 1,
	}
}

// great is a right configuration whose numbers are the greatest that they may be, with three hosts and three routes.
func great() api.Config {
	c := api.Config{
		Every: 1000000, Timeout: 1000000, Up: 100, Down: 100, Path: "/up", Fails: 1000, Base: 1000000, Longest: 1000000, Share: 100,
		MaxHead: 65536, MaxBody: 1048576, MaxOut: 1048576, HeadTime: 1000000, Idle: 1000000, Life: 1000000, Clients: 256,
	}
	for i := range 3 {
		c.Hosts = append(c.Hosts, api.Host{Name: "h" + strconv.Itoa(i), Cap: 64, Pend: 64})
		c.Routes = append(c.Routes, api.Route{
			Match: api.Match{Host: "*.h", Prefix: "/a", Methods: []string{"GET", "PUT"}, Header: "X", Value: "1"}, Hosts: []int{2, 0, 1},
			Rate: 1000000, Per: 1000000, Burst: 1000000, Open: 1000, Fails: 1000, Cool: 1000000, Probes: 100, Percent: 100, Min: 1000, Window: 1000000,
			Retries: 5, Hedges: 3, HedgeAfter: 1000000, PerTry: 1000000, Total: 1000000,
		})
	}
	return c
}

// copied is a configuration that shares nothing with another.
func copied(c api.Config) api.Config {
	c.Hosts, c.Routes = slices.Clone(c.Hosts), slices.Clone(c.Routes)
	for i := range c.Routes {
		r := &c.Routes[i]
		r.Hosts, r.Methods = slices.Clone(r.Hosts), slices.Clone(r.Methods)
	}
	return c
}

// right tells that a configuration is right, to each call.
func right(t *testing.T, what string, c api.Config) {
	t.Helper()
	if e := config.Check(c); e != api.OK {
		t.Errorf("%s: Check: %v; want OK", what, e)
	}
	for name, call := range sums() {
		if n, e := call(c); n <= 0 || e != api.OK {
			t.Errorf("%s: %s: %d, %v; want OK", what, name, n, e)
		}
	}
}

// wrong tells that a configuration is not right, to each call.
func wrong(t *testing.T, what string, c api.Config) {
	t.Helper()
	if e := config.Check(c); e != api.ErrConfig {
		t.Errorf("%s: Check: %v; want ErrConfig", what, e)
	}
	for name, call := range sums() {
		if n, e := call(c); n != 0 || e != api.ErrConfig {
			t.Errorf("%s: %s: %d, %v; want 0, ErrConfig", what, name, n, e)
		}
	}
}

func sums() map[string]func(api.Config) (int, api.Errno) {
	return map[string]func(api.Config) (int, api.Errno){"Conns": config.Conns, "Timers": config.Timers, "Buffered": config.Buffered}
}

// judged tells that a configuration is right, or that it is not.
func judged(t *testing.T, what string, c api.Config, want bool) {
	t.Helper()
	if want {
		right(t, what, c)
	} else {
		wrong(t, what, c)
	}
}

// number is one of a configuration's, with its range as the chapter tells it.
type number struct {
	name        string
	least, most int
	at          func(c *api.Config) *int
}

// numbers are all of a configuration's, those of each host and each route too.
func numbers(c api.Config) []number {
	l := []number{
		{"Every", 0, 1000000, func(c *api.Config) *int { return &c.Every }},
		{"Timeout", 1, 1000000, func(c *api.Config) *int { return &c.Timeout }},
		{"Up", 1, 100, func(c *api.Config) *int { return &c.Up }},
		{"Down", 1, 100, func(c *api.Config) *int { return &c.Down }},
		{"Fails", 0, 1000, func(c *api.Config) *int { return &c.Fails }},
		{"Base", 1, 1000000, func(c *api.Config) *int { return &c.Base }},
		{"Longest", 1, 1000000, func(c *api.Config) *int { return &c.Longest }},
		{"Share", 0, 100, func(c *api.Config) *int { return &c.Share }},
		{"MaxHead", 16, 65536, func(c *api.Config) *int { return &c.MaxHead }},
		{"MaxBody", 0, 1048576, func(c *api.Config) *int { return &c.MaxBody }},
		{"MaxOut", 1, 1048576, func(c *api.Config) *int { return &c.MaxOut }},
		{"HeadTime", 1, 1000000, func(c *api.Config) *int { return &c.HeadTime }},
		{"Idle", 1, 1000000, func(c *api.Config) *int { return &c.Idle }},
		{"Life", 1, 1000000, func(c *api.Config) *int { return &c.Life }},
		{"Clients", 1, 256, func(c *api.Config) *int { return &c.Clients }},
	}
	for i := range c.Hosts {
		l = append(l, hostNumbers(i)...)
	}
	for i := range c.Routes {
		l = append(l, routeNumbers(i)...)
	}
	return l
}

func hostNumbers(i int) []number {
	s := "host " + strconv.Itoa(i) + ": "
	return []number{
		{s + "Cap", 1, 64, func(c *api.Config) *int { return &c.Hosts[i].Cap }},
		{s + "Pend", 0, 64, func(c *api.Config) *int { return &c.Hosts[i].Pend }},
	}
}

func routeNumbers(i int) []number {
	s := "route " + strconv.Itoa(i) + ": "
	return []number{
		{s + "Rate", 0, 1000000, func(c *api.Config) *int { return &c.Routes[i].Rate }},
		{s + "Per", 1, 1000000, func(c *api.Config) *int { return &c.Routes[i].Per }},
		{s + "Burst", 0, 1000000, func(c *api.Config) *int { return &c.Routes[i].Burst }},
		{s + "Open", 1, 1000, func(c *api.Config) *int { return &c.Routes[i].Open }},
		{s + "Fails", 0, 1000, func(c *api.Config) *int { return &c.Routes[i].Fails }},
		{s + "Cool", 1, 1000000, func(c *api.Config) *int { return &c.Routes[i].Cool }},
		{s + "Probes", 1, 100, func(c *api.Config) *int { return &c.Routes[i].Probes }},
		{s + "Percent", 0, 100, func(c *api.Config) *int { return &c.Routes[i].Percent }},
		{s + "Min", 0, 1000, func(c *api.Config) *int { return &c.Routes[i].Min }},
		{s + "Window", 1, 1000000, func(c *api.Config) *int { return &c.Routes[i].Window }},
		{s + "Retries", 0, 5, func(c *api.Config) *int { return &c.Routes[i].Retries }},
		{s + "Hedges", 0, 3, func(c *api.Config) *int { return &c.Routes[i].Hedges }},
		{s + "HedgeAfter", 1, 1000000, func(c *api.Config) *int { return &c.Routes[i].HedgeAfter }},
		{s + "PerTry", 1, 1000000, func(c *api.Config) *int { return &c.Routes[i].PerTry }},
		{s + "Total", 1, 1000000, func(c *api.Config) *int { return &c.Routes[i].Total }},
	}
}

// 13.1: the chapter's example, and the longest span.
func TestExample(t *testing.T) {
	right(t, "example", little())
	right(t, "great", great())
	c := little()
	c.Routes[0].Per = 0
	wrong(t, "Per 0", c)
	wrong(t, "zero", api.Config{})
	if config.MaxSpan != 1000000 {
		t.Errorf("MaxSpan is %d", config.MaxSpan)
	}
}

// room makes a configuration one in which each number may be any of its range.
func room(c api.Config, name string) api.Config {
	c = copied(c)
	c.Path = "/"
	switch name {
	case "Base":
		c.Longest = 1000000
	case "Longest":
		c.Base = 1
	}
	return c
}

// 13.1, 13.3: each number's range: the least, the greatest, and beyond them, whatever the others are.
func TestRanges(t *testing.T) {
	for _, start := range []api.Config{little(), great()} {
		for _, n := range numbers(start) {
			for _, x := range []int{n.least, n.least + 1, n.most - 1, n.most} {
				c := room(start, n.name)
				*n.at(&c) = x
				right(t, n.name+" "+strconv.Itoa(x), c)
			}
			for _, x := range []int{n.least - 1, n.most + 1, -1, -n.most, math.MinInt, math.MaxInt, n.least - 1<<32, n.most + 1<<32} {
				c := room(start, n.name)
				*n.at(&c) = x
				wrong(t, n.name+" "+strconv.Itoa(x), c)
			}
		}
	}
}

// 13.1: Longest is not below Base.
func TestLongest(t *testing.T) {
	for _, x := range []struct {
		base, longest int
		want          bool
	}{{1, 1, true}, {1, 2, true}, {2, 1, false}, {500, 500, true}, {500, 499, false}, {500, 501, true}, {1000000, 999999, false}, {1000000, 1000000, true}, {999999, 1000000, true}, {1, 1000000, true}} {
		c := little()
		c.Base, c.Longest = x.base, x.longest
		judged(t, "Base "+strconv.Itoa(x.base)+", Longest "+strconv.Itoa(x.longest), c, x.want)
	}
}

// named is a configuration with so many hosts, all of them in its route.
func named(n int) api.Config {
	c := little()
	c.Hosts, c.Routes[0].Hosts = nil, nil
	for i := range n {
		c.Hosts = append(c.Hosts, host("h"+strconv.Itoa(i)))
		c.Routes[0].Hosts = append(c.Routes[0].Hosts, i)
	}
	return c
}

// 13.1: how many hosts there may be.
func TestHostCount(t *testing.T) {
	for n := range 40 {
		judged(t, strconv.Itoa(n)+" hosts", named(n), 1 <= n && n <= 16)
		c := named(n)
		c.Routes[0].Hosts = []int{0}
		judged(t, strconv.Itoa(n)+" hosts, one in the route", c, 1 <= n && n <= 16)
	}
	c := little()
	c.Hosts = make([]api.Host, 100000)
	wrong(t, "many hosts", c)
}

// hostTexts are texts, and whether a host may have them as its name.
func hostTexts() map[string]bool {
	return map[string]bool{
		"a": true, "ex.com": true, "a-b_c~d": true, "127.0.0.1": true, "[::1]": true, "[fe80::a]": true, "%2f": true, "a%4ab": true, "*": true, "*.com": true, "*.": true, ".": true, "a.": true, ".a": true, "..": true,
		"!$&'()*+;=": true, strings.Repeat("a", 255): true, "[" + strings.Repeat("a", 300) + "]": true, "0": true,
		"": false, "A": false, "ex.Com": false, "a:": false, "a:1": false, "a:80": false, "[::1]:": false, "[::1]:8": false, "[::A]": false, "%2F": false, "a:x": false, "a:65536": false, ":1": false, ":": false,
		"a b": false, " a": false, "a ": false, "a/b": false, "a,b": false, "a@b": false, "%": false, "%4": false, "[": false, "[]": false, "[g]": false, "a\n": false, "\x00": false, "é": false, strings.Repeat("a", 256): false, strings.Repeat("a", api.MaxBytes): false,
	}
}

// 13.1: names of hosts, at each place.
func TestNames(t *testing.T) {
	for name, want := range hostTexts() {
		for i := range 3 {
			c := named(3)
			c.Hosts[i].Name = name
			judged(t, "host "+strconv.Quote(name[:min(len(name), 40)]), c, want)
		}
	}
}

// 13.1: no two hosts have one name, wherever they are.
func TestNamesTwice(t *testing.T) {
	for i := range 16 {
		for j := range 16 {
			c := named(16)
			c.Hosts[i].Name = "x"
			c.Hosts[j].Name = "x"
			judged(t, "hosts "+strconv.Itoa(i)+" and "+strconv.Itoa(j), c, i == j)
		}
	}
	c := named(2)
	c.Hosts[0].Name, c.Hosts[1].Name = "a", "a."
	right(t, "names with one beginning", c)
}

// 13.1: how many routes there may be; they may be alike.
func TestRouteCount(t *testing.T) {
	for n := range 40 {
		c := little()
		c.Routes = slices.Repeat(c.Routes, n)
		judged(t, strconv.Itoa(n)+" routes", c, 1 <= n && n <= 16)
	}
	c := little()
	c.Routes = slices.Repeat(c.Routes, 100000)
	wrong(t, "many routes", c)
}

// 13.1: the hosts of a route, at each route.
func TestRouteHosts(t *testing.T) {
	for _, x := range []struct {
		list []int
		want bool
	}{
		{[]int{0}, true}, {[]int{1}, true}, {[]int{2}, true}, {[]int{0, 1, 2}, true}, {[]int{2, 1, 0}, true}, {[]int{2, 0}, true}, {[]int{1, 2}, true},
		{nil, false}, {[]int{}, false}, {[]int{3}, false}, {[]int{-1}, false}, {[]int{0, 3}, false}, {[]int{0, 1, -1}, false}, {[]int{16}, false}, {[]int{math.MinInt}, false}, {[]int{math.MaxInt}, false},
		{[]int{0, 0}, false}, {[]int{2, 2}, false}, {[]int{0, 1, 0}, false}, {[]int{0, 1, 1}, false}, {[]int{2, 2, 0}, false}, {[]int{0, 1, 2, 0}, false}, {make([]int, 100000), false},
	} {
		for i := range 3 {
			c := named(3)
			c.Routes = slices.Repeat(c.Routes, 3)
			c.Routes[i].Hosts = x.list
			judged(t, "hosts of "+strconv.Itoa(len(x.list)), c, x.want)
		}
	}
	c := named(16)
	right(t, "all hosts", c)
	c.Routes[0].Hosts = append(slices.Clone(c.Routes[0].Hosts), 16)
	wrong(t, "one more", c)
	c.Routes[0].Hosts[16] = 0
	wrong(t, "one more, twice", c)
	c.Routes[0].Hosts = []int{15}
	right(t, "the last", c)
}

// matched is a configuration of several routes, of which one has another match.
func matched(i int, change func(m *api.Match)) api.Config {
	c := little()
	c.Routes = slices.Repeat(c.Routes, 3)
	change(&c.Routes[i].Match)
	return c
}

// 13.1: a route's host: none, a host, or *. and a host.
func TestMatchHost(t *testing.T) {
	longest := strings.Repeat("a", 255)
	texts := map[string]bool{
		"": true, "*.": true, "*.[::1]": true, "*.*.a": true, "*.*": true, "*..": true, "*..a": true, "*a": true, "a*": true, "a.*": true, "**": true, "*.*.": true, "*.a.": true,
		longest: true, "*." + longest: true, "*." + longest + "a": false, "*.*." + longest[2:]: true, "*.*." + longest: false, "*." + "[" + longest + "::]": true,
		"*.[::1]:1": false, "*[::1]": false, "*.A": false, "*.a:": false, "*.a:1": false, "*. a": false, "*.a b": false, "*./": false, "*.%": false, "*.%41": true, "*:": false, "*.:1": false, " *.a": false, "*.[]": false, "a.[::1]": false,
	}
	for text, want := range hostTexts() {
		texts[text] = want || text == ""
		if len(text) < 250 {
			texts["*."+text] = want || text == "" // *. alone is a host
		}
	}
	for text, want := range texts {
		for i := range 3 {
			judged(t, "Match.Host "+strconv.Quote(text[:min(len(text), 40)]), matched(i, func(m *api.Match) { m.Host = text }), want)
		}
	}
}

// places are texts, and whether they are places.
func places() map[string]bool {
	return map[string]bool{
		"/": true, "/a": true, "/a/": true, "/a/b": true, "//": true, "/a//b": true, "/...": true, "/.a": true, "/a.": true, "/a..": true, "/..a": true, "/%2e": true, "/%2E%2e/": true, "/A": true, "/*": true, "/a:b@c": true, "/a,b;c=d": true, "/-._~!$&'()*+,;=:@": true,
		"/" + strings.Repeat("a", 8191): true,
		"":                              false, "*": false, "a": false, "a/": false, "http://a/": false, "http://a": false, "HTTP://a/b": false, "a:1": false, "h:80": false, "?": false, "?a": false, ".": false, "..": false, "./": false,
		"/?": false, "/a?": false, "/a?b": false, "/?/": false, "/a/?..": false,
		"/.": false, "/..": false, "/./": false, "/../": false, "/a/.": false, "/a/..": false, "/a/./b": false, "/a/../b": false, "/./a": false, "/../a": false, "//..": false, "/a/.../..": false,
		"/ ": false, "/a b": false, "/#": false, "/a#b": false, "/%": false, "/%4": false, "/%4g": false, "/[": false, "/\\": false, "/\"": false, "/é": false, "/\x00": false, "/\r\n": false, "/a\n": false, " /": false, "/<": false, "/^": false, "/|": false, "/`": false, "/{": false,
		"/" + strings.Repeat("a", 8192): false, "/" + strings.Repeat("/", api.MaxBytes): false,
	}
}

// 13.1: a route's prefix is a place.
func TestPrefix(t *testing.T) {
	for text, want := range places() {
		for i := range 3 {
			judged(t, "Prefix "+strconv.Quote(text[:min(len(text), 40)]), matched(i, func(m *api.Match) { m.Prefix = text }), want)
		}
	}
}

// 13.1: what probes ask for is a place; it may be empty, if there are none.
func TestPath(t *testing.T) {
	for text, want := range places() {
		for _, every := range []int{0, 1, 1000000} {
			c := little()
			c.Every, c.Path = every, text
			judged(t, "Every "+strconv.Itoa(every)+", Path "+strconv.Quote(text[:min(len(text), 40)]), c, want || text == "" && every == 0)
		}
	}
}

// 13.1: a route's methods: how many, and tokens; they may be alike.
func TestMethods(t *testing.T) {
	for n := range 20 {
		for i := range 3 {
			judged(t, strconv.Itoa(n)+" methods", matched(i, func(m *api.Match) { m.Methods = slices.Repeat([]string{"GET"}, n) }), n <= 8)
		}
	}
	wrong(t, "many methods", matched(0, func(m *api.Match) { m.Methods = slices.Repeat([]string{"GET"}, 100000) }))
	right(t, "no methods", matched(0, func(m *api.Match) { m.Methods = []string{} }))
	for text, want := range map[string]bool{
		"GET": true, "get": true, "x": true, "!#$%&'*+-.^_`|~09azAZ": true, "*": true, strings.Repeat("A", 10000): true,
		"": false, " ": false, "GET ": false, " GET": false, "G ET": false, "GET,PUT": false, "G/T": false, "(": false, "G\n": false, "\x00": false, "é": false, "G:": false, "\"G\"": false,
	} {
		for i := range 8 {
			methods := slices.Repeat([]string{"GET"}, 8)
			methods[i] = text
			judged(t, "method "+strconv.Quote(text[:min(len(text), 40)]), matched(i%3, func(m *api.Match) { m.Methods = methods }), want)
		}
	}
}

// 13.1: a route's header and its value: a token or none, a value, and none without a header.
func TestHeader(t *testing.T) {
	headers := map[string]bool{"": true, "X-A": true, "x": true, "!#$%&'*+-.^_`|~09azAZ": true, "Host": true, " ": false, "X A": false, "X:": false, "X ": false, " X": false, "é": false, "X\r\nY": false, "\x00": false, "(": false}
	values := map[string]bool{"": true, "1": true, "a b": true, "a\tb": true, "a, b": true, "\x80\xff": true, "\"": true, strings.Repeat("v", 10000): true, " ": false, "\t": false, " a": false, "a ": false, "\ta": false, "a\t": false, "a\rb": false, "a\nb": false, "\x00": false, "\x7f": false, "a\x1fb": false}
	for header, token := range headers {
		for value, ok := range values {
			for i := range 3 {
				c := matched(i, func(m *api.Match) { m.Header, m.Value = header, value })
				judged(t, "Header "+strconv.Quote(header)+", Value "+strconv.Quote(value[:min(len(value), 40)]), c, token && ok && (header != "" || value == ""))
			}
		}
	}
}

// tells are what the sums are.
func tells(t *testing.T, what string, c api.Config, conns, timers, buffered int) {
	t.Helper()
	for name, want := range map[string]int{"Conns": conns, "Timers": timers, "Buffered": buffered} {
		if n, e := sums()[name](c); n != want || e != api.OK {
			t.Errorf("%s: %s: %d, %v; want %d", what, name, n, e, want)
		}
	}
}

// 13.2: what the sums are, worked out by hand.
func TestSums(t *testing.T) {
	tells(t, "little", little(), 1+1+1, 4+3+3+1, (2*16+0+1+8192)+(16+0+8192))
	tells(t, "great", great(), 256+192+3, 4*256+3*192+3*3+9*256, 256*(131072+1048576+1048576+8192)+192*(65536+1048576+8192))
	c := little()
	c.Hosts = []api.Host{{Name: "a", Cap: 3, Pend: 9}, {Name: "b", Cap: 5}, {Name: "c", Cap: 64, Pend: 64}}
	c.Clients, c.MaxHead, c.MaxBody, c.MaxOut = 10, 100, 2000, 30000
	tells(t, "three hosts", c, 10+72+3, 40+216+9+10, 10*(200+2000+30000+8192)+72*(100+2000+8192))
	c.Routes[0].Retries = 2
	tells(t, "two retries", c, 85, 40+216+9+30, 10*40392+72*10292)
	c.Routes[0].Hedges = 3
	tells(t, "and three hedges", c, 85, 40+216+9+60, 10*40392+72*10292)
}

// 13.2: of several routes the one that makes the most attempts counts, wherever it is.
func TestSumsOfRoutes(t *testing.T) {
	for i := range 4 {
		for j := range 4 {
			if i == j {
				continue
			}
			c := little()
			c.Clients = 7
			c.Routes = slices.Repeat(c.Routes, 4)
			c.Routes[i].Retries = 4
			c.Routes[j].Hedges = 2
			tells(t, "retries and hedges apart", c, 7+1+1, 28+3+3+5*7, 7*(33+8192)+16+8192)
			c.Routes[j].Retries = 3
			tells(t, "retries and hedges", c, 7+1+1, 28+3+3+6*7, 7*(33+8192)+16+8192)
		}
	}
}

// 13.2: each number counts as often as it should, and those that no sum names not at all.
func TestSumsGrow(t *testing.T) {
	type grows struct{ conns, timers, buffered int }
	// By one more of each; 5 clients, caps of 6 and 2 in sum 8, two routes of which the first makes three attempts.
	want := map[string]grows{
		"Clients": {1, 4 + 3, 2*100 + 50 + 20 + 8192}, "MaxHead": {0, 0, 2*5 + 8}, "MaxBody": {0, 0, 5 + 8}, "MaxOut": {0, 0, 5},
		"host 0: Cap": {1, 3, 100 + 50 + 8192}, "host 1: Cap": {1, 3, 100 + 50 + 8192},
		"route 0: Retries": {0, 5, 0}, "route 0: Hedges": {0, 5, 0},
	}
	for _, n := range numbers(named2()) {
		c := named2()
		*n.at(&c)++
		g := want[n.name]
		tells(t, n.name, c, 5+8+2+g.conns, 20+24+6+15+g.timers, 5*(200+50+20+8192)+8*(100+50+8192)+g.buffered)
	}
}

// named2 is a configuration of two hosts and two routes whose numbers may all be one more.
func named2() api.Config {
	c := named(2)
	c.Routes = slices.Repeat(c.Routes, 2)
	c.Hosts[0].Cap, c.Hosts[1].Cap = 6, 2
	c.Clients, c.MaxHead, c.MaxBody, c.MaxOut = 5, 100, 50, 20
	c.Routes[0].Retries, c.Routes[0].Hedges = 1, 1
	c.Base, c.Longest, c.Path = 1, 2, "/"
	return c
}

// 13.3: names of hosts may be others that are right, and every text that no rule binds.
func TestRenamed(t *testing.T) {
	for name, ok := range hostTexts() {
		if !ok || slices.Contains([]string{"h0", "h1", "h2"}, name) {
			continue
		}
		for i := range 3 {
			c := great()
			c.Hosts[i].Name = name
			right(t, "another name", c)
		}
	}
}

// R3, R6: a configuration is not changed, nor the room behind its lists; the same is told again.
func TestStays(t *testing.T) {
	for _, start := range []api.Config{little(), great(), named(16), named(17), {}} {
		start.Hosts = append(start.Hosts, api.Host{Name: "behind"})
		start.Routes = append(start.Routes, way(99))
		for i := range start.Routes {
			r := &start.Routes[i]
			r.Hosts = append(slices.Clone(r.Hosts), 77)
			r.Methods = append(slices.Clone(r.Methods), "BEHIND")
		}
		before := copied(start)
		c := start
		c.Hosts, c.Routes = c.Hosts[:len(c.Hosts)-1], c.Routes[:len(c.Routes)-1]
		for i := range c.Routes {
			r := &c.Routes[i]
			r.Hosts, r.Methods = r.Hosts[:len(r.Hosts)-1], r.Methods[:len(r.Methods)-1]
		}
		first := config.Check(c)
		for range 3 {
			if e := config.Check(c); e != first {
				t.Errorf("Check: %v, then %v", first, e)
			}
			for _, call := range sums() {
				call(c)
			}
		}
		for i := range c.Routes {
			r := &c.Routes[i]
			r.Hosts, r.Methods = r.Hosts[:len(r.Hosts)+1], r.Methods[:len(r.Methods)+1]
		}
		if !reflect.DeepEqual(start, before) {
			t.Errorf("%+v became %+v", before, start)
		}
	}
}

// R2: a list without an element may be nil or empty.
func TestNilOrEmpty(t *testing.T) {
	c := little()
	c.Routes[0].Methods = []string{}
	right(t, "empty methods", c)
	c.Routes[0].Methods = nil
	right(t, "nil methods", c)
	for _, change := range []func(c *api.Config){
		func(c *api.Config) { c.Hosts = nil }, func(c *api.Config) { c.Hosts = []api.Host{} },
		func(c *api.Config) { c.Routes = nil }, func(c *api.Config) { c.Routes = []api.Route{} },
		func(c *api.Config) { c.Routes[0].Hosts = nil }, func(c *api.Config) { c.Routes[0].Hosts = []int{} },
	} {
		c := little()
		change(&c)
		wrong(t, "no element", c)
	}
}
