package target_test

import (
	"math"
	"math/rand"
	"regexp"
	"strconv"
	"strings"
	"testing"
	"unsafe"

	"headrace/api"
	"headrace/target"
)

// others are methods that ask neither by the authority form nor by the asterisk form; CONNECT and OPTIONS in other letters are such.
var others = []string{"GET", "HEAD", "POST", "PUT", "DELETE", "TRACE", "PATCH", "", "connect", "Connect", "options", "CONNECT ", "XOPTIONS", "\x00"}

func parse(t *testing.T, method, s string, want api.Target) {
	t.Helper()
	if got, e := target.Parse(method, s); got != want || e != api.OK {
		t.Errorf("Parse(%q, %.60q): %+v, %v; want %+v", method, s, got, e, want)
	}
}

func parseFails(t *testing.T, method, s string, want api.Errno) {
	t.Helper()
	if got, e := target.Parse(method, s); got != (api.Target{}) || e != want {
		t.Errorf("Parse(%q, %.60q): %+v, %v; want %v", method, s, got, e, want)
	}
}

func origin(path string) api.Target {
	return api.Target{Form: api.TgOrigin, Port: -1, Path: path}
}

func absolute(host string, port int, path string) api.Target {
	return api.Target{Form: api.TgAbsolute, Host: host, Port: port, Path: path}
}

func authority(host string, port int) api.Target {
	return api.Target{Form: api.TgAuthority, Host: host, Port: port}
}

// asking is a target with a query.
func asking(t api.Target, query string) api.Target {
	t.Query, t.Asked = query, true
	return t
}

var asterisk = api.Target{Form: api.TgAsterisk, Port: -1}

// 6.2: the origin form, by each method but CONNECT.
func TestOrigin(t *testing.T) {
	for _, m := range append([]string{"OPTIONS"}, others...) {
		parse(t, m, "/", origin("/"))
		parse(t, m, "/a", origin("/a"))
		parse(t, m, "/a?b", asking(origin("/a"), "b"))
		parse(t, m, "/a?", asking(origin("/a"), ""))
		parse(t, m, "/?", asking(origin("/"), ""))
		parse(t, m, "/??", asking(origin("/"), "?"))
		parse(t, m, "/a?b?c=/d&e", asking(origin("/a"), "b?c=/d&e"))
		parse(t, m, "//", origin("//"))
		parse(t, m, "//a:1/b", origin("//a:1/b"))
		parse(t, m, "/A%4a/../.%2e", origin("/A%4a/../.%2e"))
		parse(t, m, "/%00%fF?%41", asking(origin("/%00%fF"), "%41"))
		parse(t, m, "/*", origin("/*"))
		parse(t, m, "/http://a", origin("/http://a"))
	}
}

// 6.2: the absolute form, by each method but CONNECT.
func TestAbsolute(t *testing.T) {
	for _, m := range append([]string{"OPTIONS"}, others...) {
		parse(t, m, "http://a", absolute("a", -1, "/"))
		parse(t, m, "http://Ex.com:80", absolute("ex.com", 80, "/"))
		parse(t, m, "HTTP://A/B", absolute("a", -1, "/B"))
		parse(t, m, "hTtP://a/", absolute("a", -1, "/"))
		parse(t, m, "http://a:/", absolute("a", -1, "/"))
		parse(t, m, "http://a:", absolute("a", -1, "/"))
		parse(t, m, "http://a:0/b?c", asking(absolute("a", 0, "/b"), "c"))
		parse(t, m, "http://a?", asking(absolute("a", -1, "/"), ""))
		parse(t, m, "http://a?b/c?d", asking(absolute("a", -1, "/"), "b/c?d"))
		parse(t, m, "http://a:65535?b", asking(absolute("a", 65535, "/"), "b"))
		parse(t, m, "http://a//", absolute("a", -1, "//"))
		parse(t, m, "http://a/?", asking(absolute("a", -1, "/"), ""))
		parse(t, m, "http://[FE80::1]:8/x", absolute("[fe80::1]", 8, "/x"))
		parse(t, m, "http://[::1]", absolute("[::1]", -1, "/"))
		parse(t, m, "http://a%4A/%4A", absolute("a%4a", -1, "/%4A"))
		parse(t, m, "http://*", absolute("*", -1, "/"))
		parse(t, m, "http://a/http://b:x", absolute("a", -1, "/http://b:x"))
	}
}

// 6.2: of the absolute form Host's error comes first, whatever else is wrong.
func TestAbsoluteWrong(t *testing.T) {
	for _, m := range append([]string{"OPTIONS"}, others...) {
		for _, s := range []string{"http://", "http:///", "http://?", "http://:80", "http:///a b", "http://a b/", "http://a@b/", "http://a,b/", "http://[::1", "http://a#", "http://%4/",
			"http://u:p@a:1/", "http://a:1:2/", "http:// /", "http://\x00", "http://a\\/", "http://" + strings.Repeat("a", 256) + "/", "http://?%", "http://é/"} {
			parseFails(t, m, s, api.ErrHost)
		}
		for _, s := range []string{"http://a:x/", "http://a:65536", "http://a:99999/", "http://a:000080/", "http://a:x/ ", "http://a:8 /", "http://u:p@a/", "http://a:65536?%", "http://[::1]:x"} {
			parseFails(t, m, s, api.ErrPort)
		}
		for _, s := range []string{"http://a/ ", "http://a/#", "http://a?#", "http://a:1/%", "http://a/?%4", "http://a/b?c d", "http://a/[", "http://a/\xff"} {
			parseFails(t, m, s, api.ErrTarget)
		}
	}
}

// 6.2: the authority form, by CONNECT alone, and no other form by it.
func TestAuthority(t *testing.T) {
	parse(t, "CONNECT", "a:1", authority("a", 1))
	parse(t, "CONNECT", "Ex.COM:443", authority("ex.com", 443))
	parse(t, "CONNECT", "[::A]:0", authority("[::a]", 0))
	parse(t, "CONNECT", "a:65535", authority("a", 65535))
	parse(t, "CONNECT", "a:00080", authority("a", 80))
	parse(t, "CONNECT", "*:1", authority("*", 1))
	for _, s := range []string{"a", "a:", "[::1]", "[::1]:", "*", "a:x", "a:65536", "a:000080", "http://a/", "http:", "http:///", "a:1/", "a:1?", "a:80 "} {
		parseFails(t, "CONNECT", s, api.ErrPort)
	}
	for _, s := range []string{"", "/", "/a", "/a:1", ":1", ":", "a/b:1", "a b:1", "http://a:80", "http://a:80/", "u@a:1", "::1:1", "%:1", "**,:1", strings.Repeat("a", 256) + ":1"} {
		parseFails(t, "CONNECT", s, api.ErrHost)
	}
	for _, m := range append([]string{"OPTIONS"}, others...) {
		for _, s := range []string{"a:1", "Ex.COM:443", "[::1]:80", "a", "*:1"} {
			parseFails(t, m, s, api.ErrTarget)
		}
	}
}

// 6.2: the asterisk form, by OPTIONS alone.
func TestAsterisk(t *testing.T) {
	parse(t, "OPTIONS", "*", asterisk)
	for _, m := range others {
		parseFails(t, m, "*", api.ErrTarget)
	}
	for _, s := range []string{"**", "*?", "*/", "* ", " *", "*?a"} {
		parseFails(t, "OPTIONS", s, api.ErrTarget)
	}
}

// 6.2: what has no form.
func TestNoForm(t *testing.T) {
	for _, m := range append([]string{"OPTIONS"}, others...) {
		for _, s := range []string{"", " ", "a", "a/b", "?", "?a", "#", ".", "./a", "../a", "http", "http:", "http:/", "http:/a", "http//a", "https://a/", "ftp://a/", " /", " http://a",
			"\\", "://a", "xhttp://a/", "HTTP:/", "%2f", "http:\\\\a", "\u017fttp://a/"} {
			parseFails(t, m, s, api.ErrTarget)
		}
	}
}

// 6.2: each byte in a path and in a query, in both forms that have them.
func TestPathBytes(t *testing.T) {
	for c := range 256 {
		b := string([]byte{byte(c)})
		for _, s := range []string{b, "a" + b, b + "a", "a" + b + "a"} {
			if strings.Contains(pathBytes, b) {
				parse(t, "GET", "/"+s, origin("/"+s))
				parse(t, "GET", "http://h/"+s, absolute("h", -1, "/"+s))
			} else if c != '?' {
				parseFails(t, "GET", "/"+s, api.ErrTarget)
				parseFails(t, "GET", "/"+s+"?q", api.ErrTarget)
				parseFails(t, "GET", "http://h/"+s, api.ErrTarget)
			}
			if strings.Contains(queryBytes, b) {
				parse(t, "GET", "/p?"+s, asking(origin("/p"), s))
				parse(t, "GET", "http://h?"+s, asking(absolute("h", -1, "/"), s))
			} else {
				parseFails(t, "GET", "/p?"+s, api.ErrTarget)
				parseFails(t, "GET", "http://h?"+s, api.ErrTarget)
				parseFails(t, "GET", "http://h/p?"+s, api.ErrTarget)
			}
		}
	}
}

// 6.2: a % with two hex digits behind it, and every other one.
func TestEscapes(t *testing.T) {
	for c := range 256 {
		for d := range 256 {
			s := "%" + string([]byte{byte(c), byte(d)})
			if strings.IndexByte(hexBytes, byte(c)) >= 0 && strings.IndexByte(hexBytes, byte(d)) >= 0 {
				parse(t, "GET", "/"+s, origin("/"+s))
				parse(t, "GET", "/?"+s, asking(origin("/"), s))
			} else {
				parseFails(t, "GET", "/"+s, api.ErrTarget)
				parseFails(t, "GET", "/?"+s, api.ErrTarget)
			}
		}
	}
	for _, s := range broken {
		for _, front := range []string{"/", "/?", "http://h/", "http://h?", "http://h/p?"} {
			parseFails(t, "GET", front+s, api.ErrTarget)
		}
		parseFails(t, "GET", "/"+s+"?41", api.ErrTarget)
	}
}

// 6.2: MaxLine bytes, and one more, which is told ahead of all else.
func TestParseLong(t *testing.T) {
	fill := func(front string) string { return front + strings.Repeat("a", api.MaxLine-len(front)) }
	parse(t, "GET", fill("/"), origin(fill("/")))
	parse(t, "GET", fill("/?"), asking(origin("/"), fill("/?")[2:]))
	parse(t, "GET", fill("http://h/"), absolute("h", -1, fill("http://h/")[8:]))
	inner := strings.Repeat("a", api.MaxLine-len("[]:1"))
	parse(t, "CONNECT", "["+inner+"]:1", authority("["+inner+"]", 1))
	parseFails(t, "CONNECT", "["+inner+"a]:1", api.ErrLong)
	parseFails(t, "GET", fill(" "), api.ErrTarget)
	parseFails(t, "GET", fill("http://"), api.ErrHost)
	parseFails(t, "CONNECT", fill(""), api.ErrHost)
	parseFails(t, "GET", fill("http://a:"), api.ErrPort)
	for _, m := range append([]string{"CONNECT", "OPTIONS"}, others...) {
		for _, front := range []string{"", "/", "/?", "/ ", " ", "*", "http://", "http://h/", "a:1", "\x00"} {
			parseFails(t, m, fill(front)+"a", api.ErrLong)
			parseFails(t, m, strings.Repeat("a", api.MaxBytes), api.ErrLong)
		}
	}
}

var (
	originForm   = regexp.MustCompile(`^(/[^?]*)(\?)?(.*)$`)
	absoluteForm = regexp.MustCompile(`^(?i:http)://([^/?]*)([^?]*)(\?)?(.*)$`)
	pathForm     = regexp.MustCompile(`^(?:[A-Za-z0-9\-._~!$&'()*+,;=:@/]|%[0-9A-Fa-f]{2})*$`)
	queryForm    = regexp.MustCompile(`^(?:[A-Za-z0-9\-._~!$&'()*+,;=:@/?]|%[0-9A-Fa-f]{2})*$`)
)

// modelParse is Parse in the words of another notation.
func modelParse(method, s string) (api.Target, api.Errno) {
	if method == "CONNECT" {
		h, p, e := modelHost(s)
		if e == api.OK && p == -1 {
			e = api.ErrPort
		}
		if e != api.OK {
			return api.Target{}, e
		}
		return authority(h, p), api.OK
	}
	if method == "OPTIONS" && s == "*" {
		return asterisk, api.OK
	}
	var t api.Target
	if m := originForm.FindStringSubmatch(s); m != nil {
		t = origin(m[1])
		t.Asked, t.Query = m[2] != "", m[3]
	} else if m := absoluteForm.FindStringSubmatch(s); m != nil {
		h, p, e := modelHost(m[1])
		if e != api.OK {
			return api.Target{}, e
		}
		t = absolute(h, p, m[2])
		if t.Path == "" {
			t.Path = "/"
		}
		t.Asked, t.Query = m[3] != "", m[4]
	}
	if t.Form == 0 || !pathForm.MatchString(t.Path) || !queryForm.MatchString(t.Query) {
		return api.Target{}, api.ErrTarget
	}
	return t, api.OK
}

// methods are those by which forms are told.
var methods = []string{"GET", "CONNECT", "OPTIONS"}

// 6.2, 6.5: texts of what matters, held against the model; and what is read is read again from what is printed.
func TestParseModel(t *testing.T) {
	r := rand.New(rand.NewSource(62))
	pieces := []string{"http://", "HTTP://", "http:", "/", "/", "?", "a", "B", "80", "a:80", ":", ":", "[::1]", "[", "]", "%", "%4F", "*", " ", ",", "."}
	told := map[api.Errno]int{}
	forms := map[int]int{}
	for range 300000 {
		s := randomText(r, pieces, 7)
		m := methods[r.Intn(3)]
		if m != "CONNECT" && r.Intn(2) == 0 {
			s = "http://a" + s
		}
		got, e := target.Parse(m, s)
		if want, wantE := modelParse(m, s); got != want || e != wantE {
			t.Fatalf("Parse(%s, %q): %+v, %v; want %+v, %v", m, s, got, e, want, wantE)
		}
		told[e]++
		if e != api.OK {
			continue
		}
		forms[got.Form]++
		again, e := target.Print(got)
		if e != api.OK {
			t.Fatalf("Print(%+v): %v", got, e)
		}
		parse(t, m, again, got)
	}
	for _, e := range []api.Errno{api.OK, api.ErrTarget, api.ErrHost, api.ErrPort} {
		if told[e] < 1000 {
			t.Errorf("%v was told but %d times", e, told[e])
		}
	}
	for f := api.TgOrigin; f <= api.TgAsterisk; f++ {
		if forms[f] < 100 {
			t.Errorf("form %d was told but %d times", f, forms[f])
		}
	}
}

func prints(t *testing.T, x api.Target, want string) {
	t.Helper()
	if s, e := target.Print(x); s != want || e != api.OK {
		t.Errorf("Print(%+v): %.60q, %v; want %.60q", x, s, e, want)
	}
}

func printFails(t *testing.T, x api.Target) {
	t.Helper()
	if s, e := target.Print(x); s != "" || e != api.ErrTarget {
		t.Errorf("Print(%+v): %.60q, %v", x, s, e)
	}
}

// 6.3: each form's text.
func TestPrint(t *testing.T) {
	prints(t, origin("/"), "/")
	prints(t, origin("/a%4A//b"), "/a%4A//b")
	prints(t, asking(origin("/a"), ""), "/a?")
	prints(t, asking(origin("/a"), "b=c?d"), "/a?b=c?d")
	prints(t, absolute("a", -1, "/"), "http://a/")
	prints(t, absolute("ex.com", 80, "/"), "http://ex.com:80/")
	prints(t, absolute("a", 0, "/b"), "http://a:0/b")
	prints(t, asking(absolute("[::1]", 65535, "/b"), "c"), "http://[::1]:65535/b?c")
	prints(t, asking(absolute("a", -1, "/"), ""), "http://a/?")
	prints(t, authority("a", 1), "a:1")
	prints(t, authority("[fe80::1]", 443), "[fe80::1]:443")
	prints(t, authority("*", 0), "*:0")
	prints(t, asterisk, "*")
}

// 6.3: what Parse does not tell of its text: fields that the form has not, fields it lacks, and such as are wrong.
func TestPrintWrong(t *testing.T) {
	printFails(t, api.Target{})
	for _, f := range []int{0, -1, 5, math.MinInt, math.MaxInt} {
		printFails(t, api.Target{Form: f, Port: -1})
		printFails(t, api.Target{Form: f, Port: -1, Path: "/"})
		printFails(t, api.Target{Form: f, Host: "a", Port: 1})
	}
	for _, x := range []api.Target{
		origin(""), origin("a"), origin("*"), origin("/a b"), origin("/a?b"), origin("/%"), origin("/%4"), origin("/#"), origin("http://a/"), origin("/\r\n"),
		asking(origin("/"), "#"), asking(origin("/"), "%"), asking(origin("/"), " "), asking(origin(""), "a"), asking(origin("/%4"), "1"), asking(origin("/a?b"), "c"),
		{Form: api.TgOrigin, Port: 0, Path: "/"}, {Form: api.TgOrigin, Port: 80, Path: "/"}, {Form: api.TgOrigin, Port: -2, Path: "/"},
		{Form: api.TgOrigin, Port: -1, Path: "/", Host: "a"}, {Form: api.TgOrigin, Port: -1, Path: "/", Query: "a"},
		absolute("a", -1, ""), absolute("a", -1, "b"), absolute("", -1, "/"), absolute("A", -1, "/"), absolute("a b", -1, "/"), absolute("a/b", -1, "/"), absolute("a:1", -1, "/"),
		absolute("a", -2, "/"), absolute("a", math.MinInt, "/"), absolute("a", 65536, "/"), absolute("a", math.MaxInt, "/"), absolute("a", 8, "0/"), absolute("a", 8, ""),
		absolute("[::1", -1, "/"), absolute("[::A]", -1, "/"), absolute("a%4A", -1, "/"), absolute("a?b", -1, "/"), absolute("a", -1, "/ "), absolute("a:", -1, "/"), absolute("a:1", 2, "/"),
		asking(absolute("a", -1, ""), "b"), asking(absolute("a", -1, "/"), "\n"), {Form: api.TgAbsolute, Host: "a", Port: -1, Path: "/", Query: "b"},
		authority("", 1), authority("A", 1), authority("a", -1), authority("a", -2), authority("a", 65536), authority("a:1", 2), authority("a b", 1), authority("::1", 1), authority("a\n", 1),
		{Form: api.TgAuthority, Host: "a", Port: 1, Path: "/"}, {Form: api.TgAuthority, Host: "a", Port: 1, Query: "b"}, {Form: api.TgAuthority, Host: "a", Port: 1, Asked: true},
		{Form: api.TgAsterisk}, {Form: api.TgAsterisk, Port: 1}, {Form: api.TgAsterisk, Port: -1, Host: "a"}, {Form: api.TgAsterisk, Port: -1, Path: "/"}, {Form: api.TgAsterisk, Port: -1, Path: "*"},
		{Form: api.TgAsterisk, Port: -1, Query: "a"}, {Form: api.TgAsterisk, Port: -1, Asked: true},
	} {
		printFails(t, x)
	}
}

// 6.3: a text of MaxLine bytes, and one of more, which Parse would not take.
func TestPrintLong(t *testing.T) {
	path := "/" + strings.Repeat("a", api.MaxLine-1)
	prints(t, origin(path), path)
	printFails(t, origin(path+"a"))
	printFails(t, asking(origin(path), ""))
	rest := path[:api.MaxLine-len("http://a:80")]
	prints(t, absolute("a", 80, rest), "http://a:80"+rest)
	printFails(t, absolute("a", 80, rest+"a"))
	prints(t, asking(origin("/"), path[2:]), "/?"+path[2:])
	printFails(t, asking(origin("/"), path[1:]))
	printFails(t, origin("/"+strings.Repeat("a", api.MaxBytes)))
	// An empty path becomes / , with which the text may be one byte too long.
	host := "[" + strings.Repeat("a", api.MaxLine-len("http://[]")) + "]"
	parse(t, "GET", "http://"+host, absolute(host, -1, "/"))
	printFails(t, absolute(host, -1, "/"))
	shorter := "[" + host[2:]
	prints(t, absolute(shorter, -1, "/"), "http://"+shorter+"/")
}

// 6.3, 6.5: any targets: what is printed is read as it was, and what is not printed is nothing that Parse tells.
func TestPrintModel(t *testing.T) {
	r := rand.New(rand.NewSource(63))
	hosts := []string{"", "a", "A", "[::1]", "a:1", "a/", "%4a", "*"}
	paths := []string{"", "/", "/a", "a", "/?", "/%4a", "/ ", "*", "//a:1"}
	queries := []string{"", "a", "?", " ", "%4", "%4A"}
	ports := []int{-2, -1, 0, 1, 65535, 65536}
	printed := 0
	for range 200000 {
		x := api.Target{Form: r.Intn(6), Host: hosts[r.Intn(len(hosts))], Port: ports[r.Intn(len(ports))],
			Path: paths[r.Intn(len(paths))], Query: queries[r.Intn(len(queries))], Asked: r.Intn(2) == 0}
		want := modelPrint(x)
		if want == "" {
			printFails(t, x)
			continue
		}
		prints(t, x, want)
		printed++
		parse(t, map[int]string{api.TgOrigin: "GET", api.TgAbsolute: "GET", api.TgAuthority: "CONNECT", api.TgAsterisk: "OPTIONS"}[x.Form], want, x)
	}
	if printed < 100 {
		t.Errorf("but %d were printed", printed)
	}
}

// modelPrint finds a target's text among all that could be it; an empty one: there is none.
func modelPrint(x api.Target) string {
	query := ""
	if x.Asked {
		query = "?" + x.Query
	}
	port := ":" + strconv.Itoa(x.Port)
	for method, texts := range map[string][]string{
		"GET":     {x.Path + query, "http://" + x.Host + x.Path + query, "http://" + x.Host + port + x.Path + query},
		"CONNECT": {x.Host + port},
		"OPTIONS": {"*"},
	} {
		for _, s := range texts {
			if got, e := modelParse(method, s); e == api.OK && got == x {
				return s
			}
		}
	}
	return ""
}

// shares tells whether two texts lie in the same memory.
func shares(a, b string) bool {
	if a == "" || b == "" {
		return false
	}
	x, y := uintptr(unsafe.Pointer(unsafe.StringData(a))), uintptr(unsafe.Pointer(unsafe.StringData(b)))
	return x < y+uintptr(len(b)) && y < x+uintptr(len(a))
}

// R3: what is told lies in no memory of what was handed in.
func TestNewMemory(t *testing.T) {
	for _, c := range [][2]string{{"GET", "/path?query"}, {"GET", "/path"}, {"GET", "http://host/path?query"}, {"GET", "http://host?query"}, {"GET", "http://host"}, {"CONNECT", "host:80"}, {"OPTIONS", "*"}} {
		x, e := target.Parse(c[0], c[1])
		if e != api.OK || shares(x.Host, c[1]) || shares(x.Path, c[1]) || shares(x.Query, c[1]) {
			t.Errorf("Parse(%s, %s): %v, or it shares", c[0], c[1], e)
		}
		s, e := target.Print(x)
		if e != api.OK || shares(s, x.Host) || shares(s, x.Path) || shares(s, x.Query) {
			t.Errorf("Print(%+v): %v, or it shares", x, e)
		}
	}
	for _, in := range []string{"host", "host:80", "[::1]:80"} {
		if h, _, e := target.Host(in); e != api.OK || shares(h, in) {
			t.Errorf("Host(%s): %v, or it shares", in, e)
		}
	}
	for _, in := range []string{"/path", "/path/x/..", "//"} {
		if s, e := target.Clean(in); e != api.OK || shares(s, in) {
			t.Errorf("Clean(%s): %v, or it shares", in, e)
		}
	}
}

// R6, P1: every call ends at any bytes, and tells the same twice.
func TestSameTwice(t *testing.T) {
	r := rand.New(rand.NewSource(66))
	for range 20000 {
		b := make([]byte, r.Intn(12))
		for i := range b {
			b[i] = byte(r.Intn(256))
		}
		s := string(b)
		for _, m := range append(methods, s) {
			x, e := target.Parse(m, s)
			y, f := target.Parse(m, s)
			if x != y || e != f {
				t.Errorf("Parse(%q, %q): not the same twice", m, s)
			}
		}
		x := api.Target{Form: r.Intn(6), Host: s, Port: r.Intn(5) - 2, Path: s, Query: s, Asked: r.Intn(2) == 0}
		p, e := target.Print(x)
		q, f := target.Print(x)
		h, n, g := target.Host(s)
		i, m, j := target.Host(s)
		c, k := target.Clean("/" + s)
		d, l := target.Clean("/" + s)
		if p != q || e != f || h != i || n != m || g != j || c != d || k != l {
			t.Errorf("%q: not the same twice", s)
		}
	}
}
