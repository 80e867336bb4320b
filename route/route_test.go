package route_test

import (
	"fmt"
	"math"
	"strings"
	"testing"
	"unsafe"

	"headrace/api"
	"headrace/route"
)

// list are fields by their names and values.
func list(parts ...string) []api.Field {
	var l []api.Field
	for i := 0; i+1 < len(parts); i += 2 {
		l = append(l, api.Field{Name: parts[i], Value: parts[i+1]})
	}
	return l
}

// request is a request's head.
func request(method, target string, parts ...string) api.Head {
	return api.Head{Request: true, Method: method, Target: target, Minor: 1, Fields: list(parts...)}
}

// old is the same request of the version before.
func old(h api.Head) api.Head {
	h.Minor = 0
	return h
}

// short is what a value looks like, cut off where it is long.
func short(x any) string {
	s := fmt.Sprintf("%+v", x)
	return s[:min(len(s), 300)]
}

func place(t *testing.T, h api.Head, host, path string) {
	t.Helper()
	if a, b, e := route.Place(h); a != host || b != path || e != api.OK {
		t.Errorf("Place(%s): %.80q, %.80q, %v; want %.80q, %.80q", short(h), a, b, e, host, path)
	}
}

func noPlace(t *testing.T, h api.Head, want api.Errno) {
	t.Helper()
	if a, b, e := route.Place(h); a != "" || b != "" || e != want {
		t.Errorf("Place(%s): %.80q, %.80q, %v; want %v", short(h), a, b, e, want)
	}
}

// 14.1: the path of each form of a target, without dots and without a query.
func TestPlacePath(t *testing.T) {
	for _, c := range [][2]string{
		{"/", "/"}, {"/a", "/a"}, {"/a/", "/a/"}, {"/a/../b", "/b"}, {"/a/./b/..", "/a/"}, {"/..", "/"}, {"//a", "//a"}, {"/A", "/A"}, {"/%2e%2E/a", "/%2e%2E/a"},
		{"/a?b", "/a"}, {"/a?", "/a"}, {"/?/../c", "/"}, {"/a/..?x=/b", "/"}, {"/...", "/..."}, {"/" + strings.Repeat("a", 8191), "/" + strings.Repeat("a", 8191)},
	} {
		for _, method := range []string{"GET", "OPTIONS", "POST", "x", ""} {
			place(t, request(method, c[0], "Host", "h"), "h", c[1])
			place(t, old(request(method, c[0], "Host", "h")), "h", c[1])
			place(t, old(request(method, c[0])), "", c[1])
			if len(c[0]) < 8000 {
				place(t, request(method, "http://t"+c[0], "Host", "h"), "t", c[1])
			}
		}
	}
	for _, c := range [][2]string{{"http://t", "/"}, {"http://t?a", "/"}, {"http://t?", "/"}, {"HTTP://t/x/./y?z", "/x/y"}} {
		place(t, request("GET", c[0]), "t", c[1])
		place(t, old(request("GET", c[0])), "t", c[1])
	}
	place(t, request("OPTIONS", "*", "Host", "h"), "h", "/")
	place(t, old(request("OPTIONS", "*", "Host", "h")), "h", "/")
	place(t, old(request("OPTIONS", "*")), "", "/")
}

// 14.1: the host, in small letters and without its port: of the absolute form the target's, whatever the fields say.
func TestPlaceHost(t *testing.T) {
	for _, c := range [][2]string{
		{"h", "h"}, {"H", "h"}, {"h:1", "h"}, {"h:", "h"}, {"Ex.COM:65535", "ex.com"}, {"[::A]", "[::a]"}, {"[::1]:80", "[::1]"}, {"a%2F", "a%2f"}, {"*.com", "*.com"}, {".", "."}, {strings.Repeat("A", 255) + ":0", strings.Repeat("a", 255)},
	} {
		for _, name := range []string{"Host", "host", "HOST", "hOsT"} {
			place(t, request("GET", "/x", name, c[0]), c[1], "/x")
			place(t, request("GET", "/x", "A", "b", name, c[0], "Hosts", "q", "X-Host", "r"), c[1], "/x")
			place(t, old(request("GET", "/x", name, c[0])), c[1], "/x")
			place(t, request("OPTIONS", "*", name, c[0]), c[1], "/")
			for _, target := range []string{"http://" + c[0], "http://" + c[0] + "/", "hTTp://" + c[0] + "?q"} {
				place(t, request("GET", target), c[1], "/")
				place(t, old(request("GET", target)), c[1], "/")
				place(t, request("GET", target, name, "other:1"), c[1], "/")
				place(t, request("GET", target, name, "a", name, "b"), c[1], "/")
				place(t, request("GET", target, name, ""), c[1], "/")
				place(t, request("GET", target, name, "a b:x"), c[1], "/")
			}
		}
	}
}

// 14.1: none, one and more fields Host, by the version.
func TestPlaceHosts(t *testing.T) {
	for _, h := range []api.Head{request("GET", "/"), request("GET", "/a?b", "A", "b"), request("OPTIONS", "*", "X-Host", "h", "Hosts", "h")} {
		for _, minor := range []int{1, 2, -1, 10, math.MaxInt, math.MinInt} {
			h.Minor = minor
			noPlace(t, h, api.ErrHost)
		}
		h.Minor = 0
		if host, _, e := route.Place(h); host != "" || e != api.OK {
			t.Errorf("Place(%v): %q, %v; want no host", h, host, e)
		}
	}
	for _, parts := range [][]string{{"Host", "h", "Host", "h"}, {"Host", "h", "A", "b", "hOST", "i"}, {"host", "", "HOST", ""}, {"Host", "h", "Host", "h", "Host", "h"}, {"Host", "h", "Host", "a b"}, {"Host", "a:x", "Host", "h"}} {
		for _, h := range []api.Head{request("GET", "/", parts...), request("OPTIONS", "*", parts...)} {
			for _, minor := range []int{0, 1, 2, -1} {
				h.Minor = minor
				noPlace(t, h, api.ErrHost)
			}
		}
	}
	h := request("GET", "/a", "Host", "h")
	for _, minor := range []int{0, 1, 2, -1, math.MaxInt} { // with one, no version is asked for
		h.Minor = minor
		place(t, h, "h", "/a")
	}
}

// 14.1: a field Host whose value is none, or whose port is none.
func TestPlaceHostWrong(t *testing.T) {
	for value, want := range map[string]api.Errno{
		"": api.ErrHost, "a b": api.ErrHost, ":1": api.ErrHost, "a/b": api.ErrHost, "h, h": api.ErrHost, "a@b": api.ErrHost, "[": api.ErrHost, " h": api.ErrHost, strings.Repeat("a", 256): api.ErrHost,
		"h:x": api.ErrPort, "h:65536": api.ErrPort, "h:000001": api.ErrPort, "[::1]:-1": api.ErrPort, "h: ": api.ErrPort, "http://a": api.ErrPort,
	} {
		for _, h := range []api.Head{request("GET", "/", "Host", value), request("OPTIONS", "*", "host", value)} {
			noPlace(t, h, want)
			noPlace(t, old(h), want)
		}
	}
}

// 14.1: each error, ahead of those that the chapter names behind it.
func TestPlaceWrong(t *testing.T) {
	long := "/" + strings.Repeat("a", api.MaxLine)
	for _, parts := range [][]string{{"Host", "h"}, nil, {"Host", "h", "Host", "i"}, {"Host", "h:x"}, {"Host", ""}} {
		for _, c := range []struct {
			method, target string
			want           api.Errno
		}{
			{"GET", "/", api.OK}, {"GET", long, api.ErrLong}, {"GET", "", api.ErrTarget}, {"GET", "a", api.ErrTarget}, {"GET", "*", api.ErrTarget}, {"GET", "/ ", api.ErrTarget}, {"GET", "/#", api.ErrTarget}, {"GET", "https://a/", api.ErrTarget},
			{"GET", "http://", api.ErrHost}, {"GET", "http:///a", api.ErrHost}, {"GET", "http://a:x/", api.ErrPort}, {"GET", "http://a/ ", api.ErrTarget}, {"GET", "http://" + long, api.ErrLong},
			{"CONNECT", "a:1", api.ErrTarget}, {"CONNECT", "a", api.ErrPort}, {"CONNECT", "/", api.ErrHost}, {"CONNECT", "*", api.ErrPort}, {"CONNECT", "", api.ErrHost}, {"CONNECT", "a:65536", api.ErrPort}, {"CONNECT", "[::1]:443", api.ErrTarget}, {"CONNECT", long, api.ErrLong},
			{"OPTIONS", "*a", api.ErrTarget}, {"OPTIONS", "**", api.ErrTarget}, {"", "", api.ErrTarget},
		} {
			h := request(c.method, c.target, parts...)
			if c.want != api.OK {
				noPlace(t, h, c.want)
				noPlace(t, old(h), c.want)
			}
			h.Request = false
			noPlace(t, h, api.ErrArg)
			noPlace(t, old(h), api.ErrArg)
		}
	}
	noPlace(t, api.Head{}, api.ErrArg)
	noPlace(t, api.Head{Status: 200, Minor: 1, Fields: list("Host", "h")}, api.ErrArg)
	noPlace(t, api.Head{Request: true}, api.ErrTarget)
}

// texts are all texts of some bytes that are at most so long.
func texts(bytes string, most int) []string {
	all := []string{""}
	from := 0
	for range most {
		to := len(all)
		for _, s := range all[from:to] {
			for i := range len(bytes) {
				all = append(all, s+bytes[i:i+1])
			}
		}
		from = to
	}
	return all
}

// modelCovers tells the same byte by byte.
func modelCovers(prefix, path string) bool {
	for i := range len(prefix) {
		if i >= len(path) || path[i] != prefix[i] {
			return false
		}
	}
	switch {
	case len(path) == len(prefix):
		return true
	case len(prefix) > 0 && prefix[len(prefix)-1] == '/':
		return true
	}
	return path[len(prefix)] == '/'
}

// 14.2: which paths a prefix covers.
func TestCovers(t *testing.T) {
	for _, c := range []struct {
		prefix, path string
		want         bool
	}{
		{"/", "/", true}, {"/", "/a", true}, {"/", "//", true}, {"/a", "/a", true}, {"/a", "/a/", true}, {"/a", "/a/b", true}, {"/a", "/ab", false}, {"/a", "/a.", false}, {"/a", "/", false}, {"/a", "/b", false}, {"/a", "/A", false}, {"/a", "/b/a", false},
		{"/a/", "/a", false}, {"/a/", "/a/", true}, {"/a/", "/a/b", true}, {"/a/", "/a//", true}, {"/a/", "/ab/", false}, {"/a/b", "/a", false}, {"/a/b", "/a/b/c", true}, {"/a/b", "/a/bc", false}, {"/a//", "/a//b", true}, {"/a//", "/a/b", false},
		{"/a%2f", "/a%2f", true}, {"/a%2f", "/a%2fb", false}, {"/a%2f", "/a%2F", false}, {"/a", "/a%2fb", false}, {"/a", "/a?b", false},
		{"", "", true}, {"", "/", true}, {"", "/a", true}, {"", "a", false}, {"a", "a", true}, {"a", "a/", true}, {"a", "", false}, {"/", "", false}, {"/", "a", false},
		{strings.Repeat("/a", 100000), strings.Repeat("/a", 100000), true}, {strings.Repeat("/a", 100000), strings.Repeat("/a", 100001), true}, {strings.Repeat("/a", 100001), strings.Repeat("/a", 100000), false},
	} {
		if got := route.Covers(c.prefix, c.path); got != c.want {
			t.Errorf("Covers(%.40q, %.40q): %v", c.prefix, c.path, got)
		}
	}
	all := texts("/a\x00", 5)
	for _, prefix := range all {
		for _, path := range all {
			if got, want := route.Covers(prefix, path), modelCovers(prefix, path); got != want {
				t.Fatalf("Covers(%q, %q): %v; want %v", prefix, path, got, want)
			}
		}
	}
}

// takes tells whether a match takes a request, by all of its parts.
func takes(t *testing.T, m api.Match, h api.Head, host, path string, want bool) {
	t.Helper()
	if got := route.Takes(m, h, host, path); got != want {
		t.Errorf("Takes(%s, %s, %.40q, %.40q): %v; want %v", short(m), short(h), host, path, got, want)
	}
}

// 14.2: a match's host: none, the host, or *. and a text with which the host ends, longer than that.
func TestTakesHost(t *testing.T) {
	h := request("GET", "/")
	for _, c := range []struct {
		pattern, host string
		want          bool
	}{
		{"", "", true}, {"", "a", true}, {"", "*.", true}, {"a", "a", true}, {"a", "b", false}, {"a", "A", false}, {"A", "a", false}, {"a", "", false}, {"a", "a.", false}, {"a", "b.a", false}, {"a.b", "b", false}, {"com", "x.com", false},
		{"*.com", "x.com", true}, {"*.com", "y.x.com", true}, {"*.com", "com", false}, {"*.com", ".com", false}, {"*.com", "..com", true}, {"*.com", "xcom", false}, {"*.com", "x.com.", false}, {"*.com", "x.comx", false}, {"*.com", "x.org", false}, {"*.com", "", false}, {"*.com", "x.COM", false}, {"*.com", "*.com", true}, {"*.com", "**.com", true},
		{"*.x.com", "x.com", false}, {"*.x.com", "a.x.com", true}, {"*.x.com", ".x.com", false}, {"*.x.com", "ax.com", false}, {"*.x.com", "a.com", false},
		{"*.", "*.", true}, {"*.", "a.", true}, {"*.", ".", false}, {"*.", "a", false}, {"*.", "..", true}, {"*.", "", false}, {"*.", "a.b", false},
		{"*", "*", true}, {"*", "a", false}, {"*com", "xcom", false}, {"*com", "x.com", false}, {"*com", "*com", true}, {"a*.com", "ab.com", false}, {"x.*.com", "x.y.com", false}, {"**.com", "x.com", false}, {"*.*.com", "x.*.com", true}, {"*.*.com", "x.y.com", false}, {"*..", "a..", true}, {"*..", "..", false}, {"*..", "a.", false},
		{"*.[::1]", "x.[::1]", true}, {"*.[::1]", "[::1]", false}, {"[::1]", "[::1]", true},
		{"*." + strings.Repeat("a", 300000), "." + strings.Repeat("a", 300000), false}, {"*." + strings.Repeat("a", 300000), "b." + strings.Repeat("a", 300000), true},
	} {
		takes(t, api.Match{Host: c.pattern, Prefix: "/"}, h, c.host, "/", c.want)
		takes(t, api.Match{Host: c.pattern, Prefix: "/a"}, h, c.host, "/", false)
		takes(t, api.Match{Host: c.pattern, Prefix: "/", Methods: []string{"PUT"}}, h, c.host, "/", false)
	}
}

// modelHost tells by all the ways to part a host whether a pattern takes it.
func modelHost(pattern, host string) bool {
	for i := 1; i <= len(host); i++ { // what stands ahead of the . is not empty
		if strings.HasPrefix(host[i:], ".") && pattern == "*."+host[i+1:] {
			return true
		}
	}
	return pattern == "" || pattern == host
}

// 14.2: all short patterns and hosts of what matters.
func TestTakesHostModel(t *testing.T) {
	all := texts("*.a", 5)
	for _, pattern := range all {
		for _, host := range all {
			if got, want := route.Takes(api.Match{Host: pattern}, api.Head{}, host, ""), modelHost(pattern, host); got != want {
				t.Fatalf("Takes(%q, %q): %v; want %v", pattern, host, got, want)
			}
		}
	}
}

// 14.2: a match's methods: none, or some that have the request's, just so.
func TestTakesMethod(t *testing.T) {
	for _, c := range []struct {
		methods []string
		method  string
		want    bool
	}{
		{nil, "GET", true}, {[]string{}, "GET", true}, {nil, "", true}, {[]string{"GET"}, "GET", true}, {[]string{"GET"}, "get", false}, {[]string{"get"}, "GET", false}, {[]string{"GET"}, "PUT", false}, {[]string{"GET"}, "", false}, {[]string{""}, "", true}, {[]string{"GET"}, "GETS", false}, {[]string{"GETS"}, "GET", false}, {[]string{"GET, PUT"}, "PUT", false},
		{[]string{"GET", "PUT", "POST"}, "GET", true}, {[]string{"GET", "PUT", "POST"}, "PUT", true}, {[]string{"GET", "PUT", "POST"}, "POST", true}, {[]string{"GET", "PUT", "POST"}, "HEAD", false}, {[]string{"GET", "GET"}, "GET", true}, {[]string{"A", "B", "C", "D", "E", "F", "G", "H"}, "H", true},
	} {
		takes(t, api.Match{Prefix: "/", Methods: c.methods}, request(c.method, "/"), "h", "/", c.want)
		takes(t, api.Match{Prefix: "/x", Methods: c.methods}, request(c.method, "/"), "h", "/", false)
		takes(t, api.Match{Host: "i", Prefix: "/", Methods: c.methods}, request(c.method, "/"), "h", "/", false)
	}
}

// 14.2: a match's header: none, or one that the request has, with just that value.
func TestTakesHeader(t *testing.T) {
	for _, c := range []struct {
		header, value string
		parts         []string
		want          bool
	}{
		{"", "", nil, true}, {"", "", []string{"X", "1"}, true}, {"", "1", nil, true}, {"", "1", []string{"", "2"}, true},
		{"X", "1", []string{"X", "1"}, true}, {"X", "1", []string{"x", "1"}, true}, {"x-a", "1", []string{"A", "1", "X-A", "1", "B", "2"}, true}, {"X", "1", nil, false}, {"X", "1", []string{"X", "2"}, false}, {"X", "1", []string{"Y", "1"}, false}, {"X", "1", []string{"X", "11"}, false}, {"X", "1", []string{"X", ""}, false}, {"X", "v", []string{"X", "V"}, false},
		{"X", "", []string{"X", ""}, true}, {"X", "", nil, false}, {"X", "", []string{"X", "1"}, false}, {"X", "", []string{"Y", ""}, false},
		{"X", "1, 2", []string{"X", "1", "x", "2"}, true}, {"X", "1", []string{"X", "1", "X", "2"}, false}, {"X", "2", []string{"X", "1", "X", "2"}, false}, {"X", "1, 2", []string{"X", "2", "X", "1"}, false}, {"X", "1, 2", []string{"X", "1, 2"}, true}, {"X", "1,2", []string{"X", "1", "X", "2"}, false}, {"X", ", ", []string{"X", "", "X", ""}, true},
		{"a b", "\n", []string{"A B", "\n"}, true},
	} {
		h := request("GET", "/", c.parts...)
		takes(t, api.Match{Prefix: "/", Header: c.header, Value: c.value}, h, "h", "/", c.want)
		takes(t, api.Match{Host: "h", Prefix: "/", Methods: []string{"GET"}, Header: c.header, Value: c.value}, h, "h", "/", c.want)
		takes(t, api.Match{Prefix: "/", Methods: []string{"PUT"}, Header: c.header, Value: c.value}, h, "h", "/", false)
		takes(t, api.Match{Host: "*.h", Prefix: "/", Header: c.header, Value: c.value}, h, "h", "/", false)
		takes(t, api.Match{Prefix: "/a", Header: c.header, Value: c.value}, h, "h", "/", false)
	}
}

// 14.2: Takes goes by the host and the path that it is told, not by the head's, and by heads of any kind.
func TestTakesAsTold(t *testing.T) {
	m := api.Match{Host: "h", Prefix: "/a"}
	takes(t, m, request("GET", "/b", "Host", "i"), "h", "/a", true)
	takes(t, m, request("GET", "/a", "Host", "h"), "i", "/a", false)
	takes(t, m, request("GET", "/a", "Host", "h"), "h", "/b", false)
	takes(t, m, api.Head{}, "h", "/a/b", true)
	takes(t, m, api.Head{Status: 200, Minor: 9}, "h", "/a", true)
	takes(t, api.Match{}, api.Head{}, "", "", true)
	takes(t, api.Match{}, api.Head{}, "h", "/", true)
	takes(t, api.Match{}, api.Head{}, "h", "a", false)
}

// shares tells whether two texts lie in the same memory.
func shares(a, b string) bool {
	if a == "" || b == "" {
		return false
	}
	x, y := uintptr(unsafe.Pointer(unsafe.StringData(a))), uintptr(unsafe.Pointer(unsafe.StringData(b)))
	return x < y+uintptr(len(b)) && y < x+uintptr(len(a))
}

// R3: what Place tells lies in no memory of what was handed in, nor of another answer.
func TestPlaceMemory(t *testing.T) {
	for _, h := range []api.Head{request("GET", "/abc/def", "Host", "host"), request("GET", "/abc", "Host", "host:1"), request("GET", "http://host/abc/"), request("OPTIONS", "*", "Host", "host")} {
		host, path, e := route.Place(h)
		again, behind, _ := route.Place(h)
		if e != api.OK || host != again || path != behind {
			t.Errorf("Place(%v): %q, %q, %v; then %q, %q", h, host, path, e, again, behind)
		}
		in := []string{h.Target, h.Method}
		for _, f := range h.Fields {
			in = append(in, f.Value, f.Name)
		}
		for _, s := range in {
			if shares(host, s) || shares(path, s) {
				t.Errorf("Place(%v) tells memory of %q", h, s)
			}
		}
		if shares(host, path) || shares(host, again) || path != "/" && shares(path, behind) {
			t.Errorf("Place(%v) tells one memory twice", h)
		}
	}
}
