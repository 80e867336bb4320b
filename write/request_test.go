package write_test

import (
	"math"
	"math/rand"
	"slices"
	"strconv"
	"strings"
	"testing"

	"headrace/api"
	"headrace/framing"
	"headrace/lexis"
	"headrace/write"
)

// request is a request's head.
func request(method, target string, parts ...string) api.Head {
	return api.Head{Request: true, Method: method, Target: target, Minor: 1, Fields: list(parts...)}
}

func goesOn(t *testing.T, h api.Head, n int, want ...string) {
	t.Helper()
	text := lines(want...)
	if s, e := write.Request(h, by, n); s != text || e != api.OK {
		t.Errorf("Request(%+v, %d): %.300q, %v; want %.300q", h, n, s, e, text)
	}
	readsOn(t, text, h.Method, n)
}

// readsOn tells that a text is a right head of a request, of which nothing is stripped and whose framing is one (12.4).
func readsOn(t *testing.T, text, method string, n int) {
	t.Helper()
	h := readAgain(t, true, text)
	f, e := framing.Request(h)
	want := api.Framing{Kind: api.FrNone, Keep: true}
	if n >= 0 {
		want = api.Framing{Kind: api.FrLength, Length: n, Keep: true}
	}
	if e != api.OK || f != want || h.Method != method || h.Minor != 1 {
		t.Errorf("%.300q is read as %+v, %v; want %+v", text, f, e, want)
	}
	nothingStripped(t, h.Fields)
}

func stops(t *testing.T, h api.Head, name string, n int, want api.Errno) {
	t.Helper()
	if s, e := write.Request(h, name, n); s != "" || e != want {
		t.Errorf("Request(%+v, %.80q, %d): %.300q, %v; want %v", h, name, n, s, e, want)
	}
}

// 12.1: the chapter's example.
func TestRequestExample(t *testing.T) {
	h := request("GET", "http://a/b?c", "Connection", "close")
	h.Minor = 0
	goesOn(t, h, -1, "GET /b?c HTTP/1.1", "Host: a", "Via: 1.0 headrace")
}

// 12.1: each form of a target, with and without a query, and with an empty one.
func TestRequestTargets(t *testing.T) {
	for _, c := range []struct{ method, target, want, host string }{
		{"GET", "/", "/", ""}, {"GET", "/a/./b/../c", "/a/./b/../c", ""}, {"POST", "/a?", "/a?", ""}, {"GET", "/a?b=c&d", "/a?b=c&d", ""}, {"GET", "/?", "/?", ""}, {"GET", "/a??", "/a??", ""}, {"PUT", "//a//", "//a//", ""}, {"GET", "/%7e%2F", "/%7e%2F", ""},
		{"OPTIONS", "*", "*", ""}, {"OPTIONS", "/", "/", ""}, {"x~", "/x", "/x", ""}, {"connect", "/", "/", ""},
		{"GET", "http://a", "/", "a"}, {"GET", "http://a/", "/", "a"}, {"GET", "http://a/b/c", "/b/c", "a"}, {"GET", "http://a?b", "/?b", "a"}, {"GET", "http://a?", "/?", "a"}, {"GET", "http://a/b?", "/b?", "a"}, {"GET", "http://a/b?c?d", "/b?c?d", "a"}, {"GET", "http://a//b", "//b", "a"}, {"GET", "http://a/http://b/", "/http://b/", "a"},
		{"GET", "HTTP://Ex.COM:080/Q", "/Q", "ex.com:80"}, {"GET", "http://a:0/", "/", "a:0"}, {"GET", "http://a:65535", "/", "a:65535"}, {"GET", "http://a:/b", "/b", "a"}, {"GET", "http://[::A]/b", "/b", "[::a]"}, {"GET", "http://[::1]:8/b", "/b", "[::1]:8"}, {"OPTIONS", "http://a", "/", "a"}, {"HEAD", "http://a%2F/", "/", "a%2f"},
	} {
		first := c.method + " " + c.want + " HTTP/1.1"
		if c.host == "" { // Host as it was
			goesOn(t, request(c.method, c.target), -1, first, "Via: 1.1 headrace")
			goesOn(t, request(c.method, c.target, "A", "b", "hOST", "Q:1", "C", "d"), -1, first, "A: b", "hOST: Q:1", "C: d", "Via: 1.1 headrace")
			goesOn(t, request(c.method, c.target, "Host", "q", "A", "b", "host", ""), 3, first, "Host: q", "A: b", "host: ", "Content-Length: 3", "Via: 1.1 headrace")
			continue
		}
		goesOn(t, request(c.method, c.target), -1, first, "Host: "+c.host, "Via: 1.1 headrace")
		goesOn(t, request(c.method, c.target, "A", "b", "hOST", "q:1", "C", "d"), -1, first, "A: b", "Host: "+c.host, "C: d", "Via: 1.1 headrace")
		goesOn(t, request(c.method, c.target, "Host", "q", "A", "b", "host", "r"), 0, first, "Host: "+c.host, "A: b", "Content-Length: 0", "Via: 1.1 headrace")
		goesOn(t, request(c.method, c.target, "A", "b"), 1, first, "A: b", "Host: "+c.host, "Content-Length: 1", "Via: 1.1 headrace")
	}
}

// 12.1: the body's length is told by n alone; -1: no body.
func TestRequestLengths(t *testing.T) {
	first, via := "POST / HTTP/1.1", "Via: 1.1 headrace"
	for _, parts := range [][]string{nil, {"Content-Length", "9"}, {"content-length", "9", "CONTENT-LENGTH", "8"}, {"cOnTeNt-LeNgTh", "x"}, {"Transfer-Encoding", "chunked"}, {"transfer-encoding", "gzip", "Content-Length", "5"}} {
		goesOn(t, request("POST", "/", parts...), -1, first, via)
		for _, n := range []int{0, 1, 10, 1 << 32, lexis.MaxSize - 1, lexis.MaxSize} {
			goesOn(t, request("POST", "/", parts...), n, first, "Content-Length: "+strconv.Itoa(n), via)
			goesOn(t, request("POST", "/", append(parts, "Host", "h")...), n, first, "Host: h", "Content-Length: "+strconv.Itoa(n), via)
		}
	}
}

// 12.1: what does not go on, in great and small letters; all others stay, in their order.
func TestRequestFields(t *testing.T) {
	first, via := "GET / HTTP/1.1", "Via: 1.1 headrace"
	for _, name := range []string{"Connection", "Keep-Alive", "Proxy-Connection", "TE", "Transfer-Encoding", "Upgrade", "Content-Length", "Expect", "Trailer"} {
		for _, spelt := range []string{name, strings.ToLower(name), strings.ToUpper(name)} {
			goesOn(t, request("GET", "/", "A", "1", spelt, "close", "B", "2", spelt, "x", "A", "3"), -1, first, "A: 1", "B: 2", "A: 3", via)
		}
		goesOn(t, request("GET", "/", "X-"+name, "1", name+"s", "2"), -1, first, "X-"+name+": 1", name+"s: 2", via)
	}
	goesOn(t, request("GET", "/", "Connection", "X-A, x-b", "x-a", "1", "X-B", "2", "X-C", "3", "CONNECTION", "Accept", "accept", "4"), 2, first, "X-C: 3", "Content-Length: 2", via)
	goesOn(t, request("GET", "/", "Via", "1.0 other", "A", "b"), -1, first, "Via: 1.0 other", "A: b", via)
	goesOn(t, request("GET", "/", "Via", "1.0 other", "Connection", "via"), -1, first, via)
	goesOn(t, request("GET", "/", "Connection", "content-length", "Content-Length", "1"), 4, first, "Content-Length: 4", via)
	goesOn(t, request("GET", "/", "Connection", "\"x, B", "connection", "X-A", "X-A", "2", "B", "3"), -1, first, "B: 3", via) // quotes end with their field
}

// 12.1: Host is as it was, though connection names it; in the absolute form it stands behind all then.
func TestRequestHostNamed(t *testing.T) {
	for _, named := range []string{"host", "Host", "HOST", "close, hOST, x"} {
		goesOn(t, request("GET", "/", "A", "1", "Connection", named, "hosT", "h:1", "B", "2", "X", "3", "X", "4", "connection", "x"), -1, "GET / HTTP/1.1", "A: 1", "hosT: h:1", "B: 2", "Via: 1.1 headrace")
		goesOn(t, request("OPTIONS", "*", "Connection", named, "Host", "h", "host", "i"), 0, "OPTIONS * HTTP/1.1", "Host: h", "host: i", "Content-Length: 0", "Via: 1.1 headrace")
		goesOn(t, request("GET", "/", "Connection", named), -1, "GET / HTTP/1.1", "Via: 1.1 headrace")
		goesOn(t, request("GET", "http://a/", "Connection", named, "Host", "h", "B", "2"), -1, "GET / HTTP/1.1", "B: 2", "Host: a", "Via: 1.1 headrace")
	}
}

// 12.1: Via tells in which version the request came, and by whom it goes on.
func TestRequestVia(t *testing.T) {
	for minor, version := range []string{"1.0", "1.1"} {
		for _, name := range []string{"headrace", "x", "!#$%&'*+-.^_`|~09azAZ"} {
			h := request("GET", "/", "Connection", "keep-alive")
			h.Minor = minor
			want := lines("GET / HTTP/1.1", "Via: "+version+" "+name)
			if s, e := write.Request(h, name, -1); s != want || e != api.OK {
				t.Errorf("Request by %q: %q, %v; want %q", name, s, e, want)
			}
		}
	}
}

// 12.1: each error, ahead of those that the chapter names behind it.
func TestRequestWrong(t *testing.T) {
	response := request("GET", "/")
	response.Request = false
	good, long := request("GET", "/"), request("GET", "/"+strings.Repeat("a", api.MaxLine))
	for _, name := range []string{by, "", "a b"} { // ErrArg is named ahead of ErrName
		for _, n := range []int{-1, 0, -2, lexis.MaxSize + 1} {
			stops(t, response, name, n, api.ErrArg)
			stops(t, api.Head{Status: 200, Reason: "OK", Minor: 1}, name, n, api.ErrArg)
			stops(t, api.Head{}, name, n, api.ErrArg)
		}
		for _, n := range []int{-2, -3, math.MinInt, lexis.MaxSize + 1, math.MaxInt} {
			for _, h := range []api.Head{good, long, request("CONNECT", "a:1"), request("GET", ""), request("", "/", "", "")} {
				stops(t, h, name, n, api.ErrArg)
			}
		}
	}
	for _, name := range []string{"", " ", "a b", "a,b", "(", "é", "a\r\n", "a\x00", "1/2", strings.Repeat("a", 99) + " "} {
		for _, h := range []api.Head{good, long, request("CONNECT", "a:1"), request("GET", "*"), request("", "/", "", "")} {
			stops(t, h, name, -1, api.ErrName)
		}
	}
	for _, c := range []struct {
		method, target string
		want           api.Errno
	}{
		{"GET", long.Target, api.ErrLong}, {"CONNECT", long.Target, api.ErrLong}, {"GET", "", api.ErrTarget}, {"GET", "*", api.ErrTarget}, {"GET", "a", api.ErrTarget}, {"GET", "a:1", api.ErrTarget}, {"GET", "https://a/", api.ErrTarget}, {"GET", "/ ", api.ErrTarget}, {"GET", "/#", api.ErrTarget}, {"GET", "/%", api.ErrTarget}, {"GET", "/\r\nA: b", api.ErrTarget}, {"GET", "http://a/\x00", api.ErrTarget},
		{"GET", "http://", api.ErrHost}, {"GET", "http:///a", api.ErrHost}, {"GET", "http://a b/", api.ErrHost}, {"GET", "http://a:x/", api.ErrPort}, {"GET", "http://a:65536/ ", api.ErrPort}, {"CONNECT", "", api.ErrHost}, {"CONNECT", "a", api.ErrPort}, {"CONNECT", "a:", api.ErrPort}, {"CONNECT", "*", api.ErrPort},
		{"CONNECT", "a:1", api.ErrTarget}, {"CONNECT", "[::1]:443", api.ErrTarget},
	} {
		for _, parts := range [][]string{nil, {"", ""}, {"Host", "h\n"}} { // what can't be printed comes behind
			stops(t, request(c.method, c.target, parts...), by, -1, c.want)
			stops(t, request(c.method, c.target, parts...), by, 5, c.want)
		}
	}
}

// 12.1: ErrForm, where the head that goes on can't be printed.
func TestRequestNotPrinted(t *testing.T) {
	for _, method := range []string{"", " ", "G T", "GET\r\n", "GÉT", "G(T"} {
		stops(t, request(method, "/"), by, -1, api.ErrForm)
	}
	for _, f := range [][]string{{"", "x"}, {"a b", "x"}, {"a:", "x"}, {"a", "x\r\nB: c"}, {"a", "x\n"}, {"a", " x"}, {"a", "x\t"}, {"a", "\x00"}, {"a", "\x7f"}, {"a\r\nb", "x"}, {"Host", "h\r"}, {"é", "x"}} {
		stops(t, request("GET", "/", "Host", "h", f[0], f[1]), by, 5, api.ErrForm)
	}
	for _, minor := range []int{-1, 2, 10, math.MinInt, math.MaxInt} { // no version that there is
		h := request("GET", "/")
		h.Minor = minor
		stops(t, h, by, -1, api.ErrForm)
	}
	h := request("GET", "/") // what a response alone has
	h.Status = 200
	stops(t, h, by, -1, api.ErrForm)
	h.Status, h.Reason = 0, "OK"
	stops(t, h, by, -1, api.ErrForm)
	// what is wrong with fields that do not go on is nothing to it
	goesOn(t, request("GET", "http://a/", "Host", "\n", "Expect", "\n", "TE", "\x00", "connection", "\r\n, x y", "x y", "1"), -1, "GET / HTTP/1.1", "Host: a", "Via: 1.1 headrace")
}

// 12.1: as many fields, as long a line and as long a head as may be, and one more.
func TestRequestBounds(t *testing.T) {
	for _, c := range []struct {
		target string
		n      int
		added  []string
	}{
		{"/", -1, []string{"Via: 1.1 headrace"}}, {"/", 0, []string{"Content-Length: 0", "Via: 1.1 headrace"}}, {"http://a/", 0, []string{"Host: a", "Content-Length: 0", "Via: 1.1 headrace"}},
	} {
		h := request("GET", c.target)
		h.Fields = many(api.MaxFields - len(c.added))
		goesOn(t, h, c.n, append(append([]string{"GET / HTTP/1.1"}, fieldLines(h.Fields)...), c.added...)...)
		h.Fields = append(h.Fields, list("TE", "x", "Expect", "y", "Content-Length", "z")...) // those that do not go on do not count
		goesOn(t, h, c.n, append(append([]string{"GET / HTTP/1.1"}, fieldLines(many(api.MaxFields-len(c.added)))...), c.added...)...)
		h.Fields = many(api.MaxFields - len(c.added) + 1)
		stops(t, h, by, c.n, api.ErrForm)
	}
	path := "/" + strings.Repeat("p", api.MaxLine-len("GET / HTTP/1.1"))
	goesOn(t, request("GET", path), -1, "GET "+path+" HTTP/1.1", "Via: 1.1 headrace")
	stops(t, request("GET", path+"p"), by, -1, api.ErrForm)
	value := strings.Repeat("v", api.MaxLine-len("A: "))
	goesOn(t, request("GET", "/", "A", value), -1, "GET / HTTP/1.1", "A: "+value, "Via: 1.1 headrace")
	stops(t, request("GET", "/", "A", value+"v"), by, -1, api.ErrForm)
	longBy := strings.Repeat("b", api.MaxLine-len("Via: 1.1 "))
	if s, e := write.Request(request("GET", "/"), longBy, -1); s != lines("GET / HTTP/1.1", "Via: 1.1 "+longBy) || e != api.OK {
		t.Errorf("Request by a long one: %.80q, %v", s, e)
	}
	stops(t, request("GET", "/"), longBy+"b", -1, api.ErrForm)
	h := request("GET", "/")
	h.Fields = slices.Repeat(list("A", value), 7)
	rest := api.MaxHead - len(lines(append([]string{"GET / HTTP/1.1", "Via: 1.1 headrace", "B: "}, fieldLines(h.Fields)...)...))
	h.Fields = append(h.Fields, list("B", value[:rest])...)
	goesOn(t, h, -1, append(append([]string{"GET / HTTP/1.1"}, fieldLines(h.Fields)...), "Via: 1.1 headrace")...)
	h.Fields[7].Value += "v"
	stops(t, h, by, -1, api.ErrForm)
}

// 12.1, 12.4, R6: requests that are drawn, held against the model; each is asked twice.
func TestRequestModel(t *testing.T) {
	r := rand.New(rand.NewSource(12))
	for range 20000 {
		h := request("POST", "", "")
		h.Minor, h.Fields = r.Intn(2), drawnFields(r)
		n := []int{-1, 0, 7, lexis.MaxSize}[r.Intn(4)]
		path := []string{"/", "/a", "/a/b?", "/?c", "*"}[r.Intn(5)]
		var l []api.Field
		if host := []string{"", "a", "a:8", "[::1]:80"}[r.Intn(4)]; host != "" && path != "*" {
			h.Target = "http://" + host + path
			l = modelStrip(h.Fields, "")
			at := slices.IndexFunc(l, func(f api.Field) bool { return strings.EqualFold(f.Name, "host") })
			if at < 0 {
				at = len(l)
			}
			l = slices.Insert(modelWithout(l, "host"), at, api.Field{Name: "Host", Value: host})
		} else {
			h.Target = path
			l = modelStrip(h.Fields, "host")
			if path == "*" {
				h.Method = "OPTIONS"
			}
		}
		l = modelWithout(l, "content-length", "expect", "trailer")
		if n >= 0 {
			l = append(l, api.Field{Name: "Content-Length", Value: strconv.Itoa(n)})
		}
		l = append(l, api.Field{Name: "Via", Value: "1." + strconv.Itoa(h.Minor) + " headrace"})
		for range 2 {
			goesOn(t, h, n, append([]string{h.Method + " " + path + " HTTP/1.1"}, fieldLines(l)...)...)
		}
		if t.Failed() {
			return
		}
	}
}

// R3: a head is not changed, nor the room behind its fields; the text is new memory.
func TestRequestMemory(t *testing.T) {
	for _, target := range []string{"/a", "http://a/b", "*", "bad"} {
		all := list("Host", "h", "Connection", "X-A, Host", "X-A", "1", "Content-Length", "5", "B", "2", "Spare", "3", "Room", "4")
		was := slices.Clone(all)
		h := api.Head{Request: true, Method: "OPTIONS", Target: target, Minor: 1, Fields: all[:5]}
		one, _ := write.Request(h, by, 3)
		two, _ := write.Request(h, by, 3)
		if !slices.Equal(all, was) || h.Target != target || h.Minor != 1 || len(h.Fields) != 5 {
			t.Errorf("changed: %+v, %q; was %q", h, all, was)
		}
		if shares(one, two) || shares(one, target) || shares(one, by) || one != two {
			t.Errorf("%q shares memory, or is not told again", one)
		}
	}
}
