package head_test

import (
	"bytes"
	"fmt"
	"math"
	"math/rand"
	"reflect"
	"regexp"
	"slices"
	"strconv"
	"strings"
	"testing"

	"headrace/api"
	"headrace/head"
)

const (
	requestLine  = "GET / HTTP/1.1\r\n"
	responseLine = "HTTP/1.1 200 OK\r\n"
)

// request is a head of a request that was read.
func request(method, target string, minor int, parts ...string) api.Head {
	return api.Head{Request: true, Method: method, Target: target, Minor: minor, Fields: list(parts...)}
}

// response is a head of a response that was read.
func response(minor, status int, reason string, parts ...string) api.Head {
	return api.Head{Minor: minor, Status: status, Reason: reason, Fields: list(parts...)}
}

// list are fields by their names and values.
func list(parts ...string) []api.Field {
	var l []api.Field
	for i := 0; i+1 < len(parts); i += 2 {
		l = append(l, api.Field{Name: parts[i], Value: parts[i+1]})
	}
	return l
}

// show is a head in words.
func show(h api.Head) string { return fmt.Sprintf("%+v", h) }

// same tells whether two heads are the same; no fields are none, nil or not.
func same(a, b api.Head) bool {
	if len(a.Fields) == 0 && len(b.Fields) == 0 {
		a.Fields, b.Fields = nil, nil
	}
	return reflect.DeepEqual(a, b)
}

// made is a new parser.
func made(t *testing.T, request bool, most int) *head.Parser {
	t.Helper()
	p, e := head.New(request, most)
	if p == nil || e != api.OK {
		t.Fatalf("New(%v, %d): %v, %v", request, most, p, e)
	}
	return p
}

func feeds(t *testing.T, p *head.Parser, b string, n int, whole bool, e api.Errno) {
	t.Helper()
	if gotN, gotWhole, got := p.Feed([]byte(b)); gotN != n || gotWhole != whole || got != e {
		t.Errorf("Feed(%.80q): %d, %v, %v; want %d, %v, %v", b, gotN, gotWhole, got, n, whole, e)
	}
}

func parses(t *testing.T, request bool, b string, want api.Head, n int) {
	t.Helper()
	if h, got, e := head.Parse(request, []byte(b)); !same(h, want) || got != n || e != api.OK {
		t.Errorf("Parse(%v, %.80q): %.200q, %d, %v; want %.200q, %d", request, b, show(h), got, e, show(want), n)
	}
}

func parseFails(t *testing.T, request bool, b string, want api.Errno) {
	t.Helper()
	if h, n, e := head.Parse(request, []byte(b)); !reflect.DeepEqual(h, api.Head{}) || n != 0 || e != want {
		t.Errorf("Parse(%v, %.80q): %.200q, %d, %v; want %v", request, b, show(h), n, e, want)
	}
}

// failsAt tells that a head is refused at its last byte, not ahead of it, fed at once and fed byte by byte.
func failsAt(t *testing.T, request bool, b string, want api.Errno) {
	t.Helper()
	p := made(t, request, api.MaxHead)
	feeds(t, p, b[:len(b)-1], len(b)-1, false, api.OK)
	feeds(t, p, b[len(b)-1:]+"behind", 1, false, want)
	feeds(t, p, "\r\n\r\n", 0, false, want)
	feeds(t, made(t, request, api.MaxHead), b+"\r\nbehind", len(b), false, want)
	parseFails(t, request, b, want)
	parseFails(t, request, b+"\r\n\r\n", want)
	parseFails(t, request, b[:len(b)-1], api.ErrNone)
}

// 8.1: New takes 16 to MaxHead.
func TestNew(t *testing.T) {
	for _, request := range []bool{true, false} {
		for _, most := range []int{16, 17, 100, api.MaxLine, api.MaxHead - 1, api.MaxHead} {
			p := made(t, request, most)
			feeds(t, p, "", 0, false, api.OK)
			if h := p.Head(); !reflect.DeepEqual(h, api.Head{}) {
				t.Errorf("Head of a new parser: %q", show(h))
			}
		}
		for _, most := range []int{15, 0, -1, 1, -16, api.MaxHead + 1, math.MinInt, math.MaxInt, 1 << 32} {
			if p, e := head.New(request, most); p != nil || e != api.ErrArg {
				t.Errorf("New(%v, %d): %v, %v", request, most, p, e)
			}
		}
	}
}

// 8.3: a nil parser reads nothing and is not whole; nor does one that New did not make.
func TestNilParser(t *testing.T) {
	for _, p := range []*head.Parser{nil, {}} {
		for range 2 {
			for _, b := range []string{"", "G", requestLine + "\r\n", responseLine + "\r\n"} {
				feeds(t, p, b, 0, false, api.ErrState)
			}
			if h := p.Head(); !reflect.DeepEqual(h, api.Head{}) {
				t.Errorf("Head of no parser: %q", show(h))
			}
		}
		if n, whole, e := p.Feed(nil); n != 0 || whole || e != api.ErrState {
			t.Errorf("Feed(nil) of no parser: %d, %v, %v", n, whole, e)
		}
	}
}

// 8.1, 8.2: heads of requests.
func TestRequests(t *testing.T) {
	for _, c := range []struct {
		text string
		want api.Head
	}{
		{"GET / HTTP/1.1\r\n\r\n", request("GET", "/", 1)},
		{"GET / HTTP/1.0\r\n\r\n", request("GET", "/", 0)},
		{"GET / HTTP/1.1\r\nHost: a\r\n\r\n", request("GET", "/", 1, "Host", "a")},
		{"x!#$%&'*+-.^_`|~9 * HTTP/1.1\r\n\r\n", request("x!#$%&'*+-.^_`|~9", "*", 1)},
		{"get http://a:1/b?c#d HTTP/1.0\r\n\r\n", request("get", "http://a:1/b?c#d", 0)},
		{"CONNECT a:1 HTTP/1.1\r\n\r\n", request("CONNECT", "a:1", 1)},
		{"A HTTP/1.1 HTTP/1.1\r\n\r\n", request("A", "HTTP/1.1", 1)},
		{"HTTP \"<>\\^`{|}~ HTTP/1.1\r\n\r\n", request("HTTP", "\"<>\\^`{|}~", 1)},
		// fields: blanks around values, empty values, colons in values, names in great and small letters, the same name again
		{requestLine + "a:b\r\n\r\n", request("GET", "/", 1, "a", "b")},
		{requestLine + "a: \t b\tc  d\t \r\n\r\n", request("GET", "/", 1, "a", "b\tc  d")},
		{requestLine + "a:\r\nB: \r\nc:\t \t\r\n\r\n", request("GET", "/", 1, "a", "", "B", "", "c", "")},
		{requestLine + "a:b:c\r\nd::\r\ne:: f\r\n\r\n", request("GET", "/", 1, "a", "b:c", "d", ":", "e", ": f")},
		{requestLine + "Ab: x\r\naB: Y\r\nAb: z\r\n\r\n", request("GET", "/", 1, "Ab", "x", "aB", "Y", "Ab", "z")},
		{requestLine + "a: \x80\xff~!\r\n\r\n", request("GET", "/", 1, "a", "\x80\xff~!")},
		{requestLine + "a: b : c\r\n!~: \"\r\n\r\n", request("GET", "/", 1, "a", "b : c", "!~", "\"")},
		{requestLine + "Content-Length: 5\r\nTransfer-Encoding: chunked\r\n\r\n", request("GET", "/", 1, "Content-Length", "5", "Transfer-Encoding", "chunked")},
	} {
		parses(t, true, c.text, c.want, len(c.text))
		parses(t, true, c.text+"behind", c.want, len(c.text))
		parses(t, true, c.text+"\r\n", c.want, len(c.text))
		parses(t, true, c.text+"\n\r\x00", c.want, len(c.text))
		for i := range len(c.text) {
			parseFails(t, true, c.text[:i], api.ErrNone)
		}
	}
	parseFails(t, true, responseLine+"\r\n", api.ErrStart)
}

// 8.1, 8.2: heads of responses.
func TestResponses(t *testing.T) {
	for _, c := range []struct {
		text string
		want api.Head
	}{
		{"HTTP/1.1 200 OK\r\n\r\n", response(1, 200, "OK")},
		{"HTTP/1.0 204 No Content\r\n\r\n", response(0, 204, "No Content")},
		{"HTTP/1.1 100 \r\n\r\n", response(1, 100, "")},
		{"HTTP/1.1 599 \r\na: b\r\n\r\n", response(1, 599, "", "a", "b")},
		{"HTTP/1.1 404  two  blanks\t \r\n\r\n", response(1, 404, " two  blanks\t ")},
		{"HTTP/1.1 404  \r\n\r\n", response(1, 404, " ")},
		{"HTTP/1.1 404 \t\r\n\r\n", response(1, 404, "\t")},
		{"HTTP/1.1 500 \x80\xff:\r\n\r\n", response(1, 500, "\x80\xff:")},
		{"HTTP/1.1 200 HTTP/2.0 200 OK\r\n\r\n", response(1, 200, "HTTP/2.0 200 OK")},
		{"HTTP/1.0 200 OK\r\nA: b\r\nA: \r\n\r\n", response(0, 200, "OK", "A", "b", "A", "")},
	} {
		parses(t, false, c.text, c.want, len(c.text))
		parses(t, false, c.text+"behind", c.want, len(c.text))
		for i := range len(c.text) {
			parseFails(t, false, c.text[:i], api.ErrNone)
		}
	}
	parseFails(t, false, requestLine+"\r\n", api.ErrStart)
}

// 8.1: ahead of a request's first line up to four empty lines are passed over; ahead of a response's none is.
func TestEmptyLines(t *testing.T) {
	for n := range 5 {
		empty := strings.Repeat("\r\n", n)
		text := empty + requestLine + "a: b\r\n\r\n"
		parses(t, true, text+"\r\n", request("GET", "/", 1, "a", "b"), len(text))
		parseFails(t, true, empty, api.ErrNone)
		failsAt(t, true, empty+" \r\n", api.ErrStart)
		failsAt(t, true, empty+"\n", api.ErrBare)
	}
	failsAt(t, true, strings.Repeat("\r\n", 5), api.ErrStart)
	failsAt(t, false, "\r\n", api.ErrStart)
	parseFails(t, true, strings.Repeat("\r\n", 5)+requestLine+"\r\n", api.ErrStart)
	parseFails(t, false, "\r\n"+responseLine+"\r\n", api.ErrStart)
}

// 8.1: whether the head is whole, what is read behind it, and what Head tells ahead of it and behind.
func TestWhole(t *testing.T) {
	p := made(t, true, 100)
	feeds(t, p, "\r\nPUT /x HT", 11, false, api.OK)
	if h := p.Head(); !reflect.DeepEqual(h, api.Head{}) {
		t.Errorf("Head of a half one: %q", show(h))
	}
	feeds(t, p, "", 0, false, api.OK)
	feeds(t, p, "TP/1.0\r\na: b\r", 13, false, api.OK)
	feeds(t, p, "\n\r", 2, false, api.OK)
	if h := p.Head(); !reflect.DeepEqual(h, api.Head{}) {
		t.Errorf("Head of one without its last byte: %q", show(h))
	}
	feeds(t, p, "\nbehind", 1, true, api.OK)
	for range 3 {
		feeds(t, p, "", 0, true, api.OK)
		feeds(t, p, "more", 0, true, api.OK)
		feeds(t, p, "\n\n", 0, true, api.OK)
		feeds(t, p, strings.Repeat("a", api.MaxBytes), 0, true, api.OK)
		if h := p.Head(); !same(h, request("PUT", "/x", 0, "a", "b")) {
			t.Errorf("Head: %q", show(h))
		}
	}
	feeds(t, made(t, false, 100), responseLine+"\r\n"+responseLine, len(responseLine)+2, true, api.OK)
}

// 8.1: behind an error nothing is read, the error is told again, and there is no head.
func TestBehindAnError(t *testing.T) {
	for _, c := range []struct {
		text string
		want api.Errno
	}{
		{"GET /\r\n", api.ErrStart}, {requestLine + "\n", api.ErrBare}, {requestLine + "a: b\r\n b\r\n", api.ErrFold}, {requestLine + "a\r\n", api.ErrColon},
		{"GET / HTTP/1.2\r\n", api.ErrVersion}, {requestLine + "a : b\r\n", api.ErrSpace}, {requestLine + "(: b\r\n", api.ErrName},
		{requestLine + "a: \x00\r\n", api.ErrValue}, {requestLine + strings.Repeat("a", api.MaxLine+1), api.ErrLarge},
	} {
		p := made(t, true, api.MaxHead)
		feeds(t, p, c.text+"behind", len(c.text), false, c.want)
		for range 3 {
			feeds(t, p, "", 0, false, c.want)
			feeds(t, p, "\r\n", 0, false, c.want)
			feeds(t, p, requestLine+"\r\n", 0, false, c.want)
			if h := p.Head(); !reflect.DeepEqual(h, api.Head{}) {
				t.Errorf("Head behind %v: %q", c.want, show(h))
			}
		}
	}
}

// What is wrong first: a byte 10 without a byte 13, a byte 13 without a byte 10, wherever they stand.
func TestBare(t *testing.T) {
	for _, b := range []string{
		"\n", "\rG", "\r\r", "GET\n", "GET / HTTP/1.1\n", "GET / HTTP/1.1\r\r", "GET\rX", "GET / HTTP/2.0\n", "(\n", "\r\n\n", "\r\n\r\r",
		requestLine + "\n", requestLine + "\rx", requestLine + "a: b\n", requestLine + "a: b\rc", requestLine + "a: b\r\n\n", requestLine + "a: b\r\n\r\r",
		requestLine + "a: b\r ", requestLine + "a: b\r\x00", requestLine + " a\n", requestLine + "a\n", requestLine + ":\n",
	} {
		failsAt(t, true, b, api.ErrBare)
	}
	for _, b := range []string{"\n", "HTTP/1.1 200 OK\n", "HTTP/1.1 200 OK\rX", responseLine + "a\n", responseLine + "\n", responseLine + "\r\r"} {
		failsAt(t, false, b, api.ErrBare)
	}
	for c := range 256 {
		if c != '\n' {
			failsAt(t, true, requestLine+"a: b\r"+string([]byte{byte(c)}), api.ErrBare)
		}
	}
}

// Each version: those of HTTP/1 are read, others of the form are told as such, what has no such form is no first line.
func TestVersions(t *testing.T) {
	for d := range 100 {
		version := "HTTP/" + strconv.Itoa(d/10) + "." + strconv.Itoa(d%10)
		if d == 10 || d == 11 {
			parses(t, true, "GET / "+version+"\r\n\r\n", request("GET", "/", d-10), len("GET / \r\n\r\n")+8)
			parses(t, false, version+" 200 \r\n\r\n", response(d-10, 200, ""), len(" 200 \r\n\r\n")+8)
			continue
		}
		failsAt(t, true, "GET / "+version+"\r\n", api.ErrVersion)
		failsAt(t, false, version+" 200 OK\r\n", api.ErrVersion)
		failsAt(t, false, version+" 200 \r\n", api.ErrVersion)
	}
	for _, version := range []string{
		"", "HTTP", "HTTP/", "HTTP/1", "HTTP/1.", "HTTP/1.1.", "HTTP/1.10", "HTTP/01.1", "HTTP/11.1", "http/1.1", "Http/1.1", "HTTP/1,1", "HTTP/1 1", "HTTP/.1", "HTTP/a.1",
		"HTTP/1.a", "HTTP/1.\x00", "HTTP/-1.1", "HTTPS/1.1", "HTTP 1.1", "HTTP\\1.1", "xHTTP/1.1", "HTTP/1.1x", "HTTP//1.1", "HTTP/1/1", "HTTP/:.1", "HTTP/1.:", "HTTP/1./", "HTTP/2", "ICY",
	} {
		failsAt(t, true, "GET / "+version+"\r\n", api.ErrStart)
		failsAt(t, false, version+" 200 OK\r\n", api.ErrStart)
	}
}

// A request's first line has its form, or ErrStart: ahead of ErrVersion, wherever it is wrong.
func TestRequestLineWrong(t *testing.T) {
	for _, version := range []string{"HTTP/1.1", "HTTP/1.0", "HTTP/2.0", "HTTP/9.9"} {
		for _, line := range []string{
			"", " ", "  ", "GET", "GET ", "GET /", "GET/ ", "GET  ", "GET  / ", "GET / / ", " GET / ", "GET /\t", "GET\t/ ", "\tGET / ", "G(T / ", "GÉT / ", "GET /\x7f ", "GET /é ",
			"GET /\x00 ", "GET /a\tb ", "G:T / ", ":", "/ ",
		} {
			failsAt(t, true, line+version+"\r\n", api.ErrStart)
		}
		failsAt(t, true, "GET / "+version+" \r\n", api.ErrStart)
		failsAt(t, true, "GET / "+version+"\t\r\n", api.ErrStart)
		failsAt(t, true, "GET / "+version+" x\r\n", api.ErrStart)
		failsAt(t, true, version+"\r\n", api.ErrStart)
	}
	failsAt(t, true, "GET / \r\n", api.ErrStart)
	failsAt(t, true, "a: b\r\n", api.ErrStart)
	failsAt(t, true, " GET / HTTP/1.1\r\n", api.ErrStart)
}

// Each byte in a method and in a target.
func TestRequestLineBytes(t *testing.T) {
	token := regexp.MustCompile("^[A-Za-z0-9!#$%&'*+.^_`|~-]$")
	for c := range 256 {
		b := string([]byte{byte(c)})
		if c == '\n' || c == '\r' {
			continue
		}
		for _, method := range []string{b, b + "A", "A" + b, "A" + b + "A"} {
			text := method + " / HTTP/1.1\r\n"
			if c < 128 && token.MatchString(b) {
				parses(t, true, text+"\r\n", request(method, "/", 1), len(text)+2)
				continue
			}
			failsAt(t, true, text, api.ErrStart)
		}
		for _, target := range []string{b, b + "/", "/" + b, "/" + b + "/"} {
			text := "A " + target + " HTTP/1.1\r\n"
			if c >= 33 && c <= 126 {
				parses(t, true, text+"\r\n", request("A", target, 1), len(text)+2)
				continue
			}
			failsAt(t, true, text, api.ErrStart)
		}
	}
}

// Each status of three digits.
func TestStatuses(t *testing.T) {
	for n := range 1000 {
		status := strconv.Itoa(n + 1000)[1:]
		text := "HTTP/1.1 " + status + " x\r\n"
		if n < 100 || n > 599 {
			failsAt(t, false, text, api.ErrStart)
			failsAt(t, false, "HTTP/2.0 "+status+" x\r\n", api.ErrStart)
			continue
		}
		parses(t, false, text+"\r\n", response(1, n, "x"), len(text)+2)
	}
}

// A response's first line has its form, or ErrStart: ahead of ErrVersion, wherever it is wrong.
func TestResponseLineWrong(t *testing.T) {
	for _, version := range []string{"HTTP/1.1", "HTTP/1.0", "HTTP/2.0", "HTTP/9.9"} {
		for _, rest := range []string{
			"", " ", "  ", " 200", "  200 OK", " 20 OK", " 2 OK", " 2000 OK", " 0200 OK", " +20 OK", " -20 OK", " 2 0 OK", " 20a OK", " 0x1 OK", "\t200 OK", " 200\tOK", " 200\t OK", " \t200 OK",
			" OK 200", " 200 O\x00K", " 200 O\x7fK", " 200 \x1f", " 200 OK\x00", " 099 x", " 600 x", " 999 x", " 000 x", " ٢٠٠ OK", " 200OK", " 200, OK",
		} {
			failsAt(t, false, version+rest+"\r\n", api.ErrStart)
		}
		failsAt(t, false, " "+version+" 200 OK\r\n", api.ErrStart)
	}
}

// Each byte in a reason, at its ends too.
func TestReasonBytes(t *testing.T) {
	for c := range 256 {
		b := string([]byte{byte(c)})
		if c == '\n' || c == '\r' {
			continue
		}
		for _, reason := range []string{b, b + "x", "x" + b, "x" + b + "x"} {
			text := "HTTP/1.1 200 " + reason + "\r\n"
			if c == 9 || c >= 32 && c != 127 {
				parses(t, false, text+"\r\n", response(1, 200, reason), len(text)+2)
				continue
			}
			failsAt(t, false, text, api.ErrStart)
		}
	}
}

// Which error a field's line has, where two would do: ErrFold, ErrColon, ErrSpace, ErrName, ErrValue.
func TestFieldLines(t *testing.T) {
	for _, c := range []struct {
		line string
		want api.Errno
	}{
		{" ", api.ErrFold}, {"\t", api.ErrFold}, {" a: b", api.ErrFold}, {"\ta: b", api.ErrFold}, {" a", api.ErrFold}, {" : b", api.ErrFold}, {" a : b", api.ErrFold}, {"\t:\x00", api.ErrFold}, {" \x00", api.ErrFold},
		{"a", api.ErrColon}, {"a b", api.ErrColon}, {"a ", api.ErrColon}, {"(", api.ErrColon}, {"\x00", api.ErrColon}, {"a=b", api.ErrColon}, {"\xff ", api.ErrColon}, {"a;b", api.ErrColon},
		{"a : b", api.ErrSpace}, {"a\t: b", api.ErrSpace}, {"a  :", api.ErrSpace}, {"( : b", api.ErrSpace}, {"a b : c", api.ErrSpace}, {"a :\x00", api.ErrSpace}, {"\x00\t:\x00", api.ErrSpace}, {"a \t:b:c", api.ErrSpace},
		{":", api.ErrName}, {": b", api.ErrName}, {"::", api.ErrName}, {"a b: c", api.ErrName}, {"(: b", api.ErrName}, {"a\x00:", api.ErrName}, {"é: b", api.ErrName}, {"\x00:\x00", api.ErrName}, {"a/b:\x7f", api.ErrName}, {": :", api.ErrName},
		{"a:\x00", api.ErrValue}, {"a: b\x7f", api.ErrValue}, {"a: \x1f ", api.ErrValue}, {"a:b\x00c", api.ErrValue}, {"a: \x0b", api.ErrValue}, {"a:\x0cb", api.ErrValue}, {"a: b : \x01", api.ErrValue},
	} {
		for _, ahead := range []string{"", "x: y\r\n", "x:\r\nx:\r\n"} {
			failsAt(t, true, requestLine+ahead+c.line+"\r\n", c.want)
			failsAt(t, false, responseLine+ahead+c.line+"\r\n", c.want)
		}
	}
}

// Each byte at each place of a field's line.
func TestFieldBytes(t *testing.T) {
	token := regexp.MustCompile("^[A-Za-z0-9!#$%&'*+.^_`|~-]$")
	for c := range 256 {
		b := string([]byte{byte(c)})
		if c == '\n' || c == '\r' || c == ':' {
			continue
		}
		blank, inToken := c == 9 || c == 32, c < 128 && token.MatchString(b)
		want := [3]api.Errno{api.ErrName, api.ErrName, api.ErrName}
		if blank {
			want = [3]api.Errno{api.ErrFold, api.ErrName, api.ErrSpace}
		}
		for i, name := range []string{b + "a", "a" + b + "a", "a" + b} {
			text := requestLine + name + ": x\r\n"
			if inToken {
				parses(t, true, text+"\r\n", request("GET", "/", 1, name, "x"), len(text)+2)
				continue
			}
			failsAt(t, true, text, want[i])
		}
		for _, value := range []string{b, b + "x", "x" + b, "x" + b + "x"} {
			text := requestLine + "a:" + value + "\r\n"
			if blank || c >= 32 && c != 127 {
				parses(t, true, text+"\r\n", request("GET", "/", 1, "a", strings.Trim(value, "\t ")), len(text)+2)
				continue
			}
			failsAt(t, true, text, api.ErrValue)
		}
	}
}

// A head of the most bytes it may have, and of one more; empty lines ahead of it are of these bytes.
func TestMost(t *testing.T) {
	for _, ahead := range []string{"", "\r\n", "\r\n\r\n\r\n\r\n"} {
		text := ahead + requestLine + "a: b\r\nb: cdefghijklmnopq\r\n\r\n"
		for most := 16; most <= len(text)+3; most++ {
			p := made(t, true, most)
			if most >= len(text) {
				feeds(t, p, text+"behind", len(text), true, api.OK)
				continue
			}
			feeds(t, p, text, most+1, false, api.ErrLarge)
			p = made(t, true, most)
			feeds(t, p, text[:most], most, false, api.OK)
			feeds(t, p, text[most:], 1, false, api.ErrLarge)
			feeds(t, p, text[most:], 0, false, api.ErrLarge)
		}
	}
	// one byte fewer than the shortest response would need, and just so many
	shortest := "HTTP/1.1 200 \r\n\r\n"
	feeds(t, made(t, false, 16), shortest, 17, false, api.ErrLarge)
	feeds(t, made(t, false, 17), shortest, 17, true, api.OK)
}

// heads of a size, in lines that are not too long.
func sized(first string, size int) string {
	var b strings.Builder
	b.WriteString(first)
	for b.Len()+2+5000 < size {
		b.WriteString("a: " + strings.Repeat("b", 4000) + "\r\n")
	}
	b.WriteString("a: " + strings.Repeat("b", size-2-b.Len()-5) + "\r\n\r\n")
	return b.String()
}

// 8.2: Parse takes MaxHead bytes, and refuses one more.
func TestMaxHead(t *testing.T) {
	for _, first := range []string{requestLine, responseLine} {
		request := first == requestLine
		for _, size := range []int{api.MaxHead - 1, api.MaxHead} {
			text := sized(first, size)
			if h, n, e := head.Parse(request, []byte(text+"behind")); len(text) != size || n != size || e != api.OK || len(h.Fields) < 10 {
				t.Errorf("Parse of %d bytes: %d, %v", len(text), n, e)
			}
		}
		parseFails(t, request, sized(first, api.MaxHead+1), api.ErrLarge)
		parseFails(t, request, sized(first, api.MaxHead+1)[:api.MaxHead], api.ErrNone)
		parseFails(t, request, sized(first, api.MaxHead+2), api.ErrLarge)
		parseFails(t, request, sized(first, 2*api.MaxHead), api.ErrLarge)
	}
	text := sized("\r\n"+requestLine, api.MaxHead)
	if _, n, e := head.Parse(true, []byte(text)); n != api.MaxHead || e != api.OK {
		t.Errorf("Parse with an empty line ahead: %d, %v", n, e)
	}
	parseFails(t, true, "\r\n"+text, api.ErrLarge)
}

// A line of MaxLine bytes, and of one more: each kind of line.
func TestMaxLine(t *testing.T) {
	for _, c := range []struct {
		request              bool
		ahead, begin, behind string
	}{
		{true, "", "GET /", " HTTP/1.1"}, {true, "\r\n", "G", "T / HTTP/1.0"}, {true, requestLine, "a: ", ""}, {true, requestLine, "a", ":"}, {true, requestLine + "x: y\r\n", "a:", " "},
		{false, "", "HTTP/1.1 200 ", ""}, {false, responseLine, "a: b", "c"},
	} {
		fill := strings.Repeat("x", api.MaxLine-len(c.begin)-len(c.behind))
		line := c.begin + fill + c.behind
		text := c.ahead + line + "\r\n\r\n"
		if _, n, e := head.Parse(c.request, []byte(text)); n != len(text) || e != api.OK {
			t.Errorf("Parse of a line of %d bytes: %d, %v", len(line), n, e)
		}
		long := c.ahead + c.begin + "x" + fill + c.behind
		failsAt(t, c.request, long[:len(c.ahead)+api.MaxLine+1], api.ErrLarge)
		parseFails(t, c.request, long+"\r\n\r\n", api.ErrLarge)
		// a line's end is not of its bytes, but what stands in its place is
		failsAt(t, c.request, c.ahead+line+"\n", api.ErrBare)
		failsAt(t, c.request, c.ahead+line+"\rx", api.ErrBare)
		failsAt(t, c.request, c.ahead+line+"\r\r", api.ErrBare)
	}
	// what is wrong with a line is told at its end: by then it is too long
	failsAt(t, true, strings.Repeat(" ", api.MaxLine+1), api.ErrLarge)
	failsAt(t, true, strings.Repeat(" ", api.MaxLine)+"\r\n", api.ErrStart)
	failsAt(t, true, requestLine+strings.Repeat(" ", api.MaxLine+1), api.ErrLarge)
	failsAt(t, true, requestLine+strings.Repeat(" ", api.MaxLine)+"\r\n", api.ErrFold)
	failsAt(t, true, "\r\n"+strings.Repeat("\x00", api.MaxLine+1), api.ErrLarge)
}

// MaxFields fields are read; the one more is refused at its line's end, if nothing else is wrong with it.
func TestMaxFields(t *testing.T) {
	lines := strings.Repeat("a: b\r\n", api.MaxFields)
	text := requestLine + lines
	if h, n, e := head.Parse(true, []byte(text+"\r\n")); len(h.Fields) != api.MaxFields || n != len(text)+2 || e != api.OK {
		t.Errorf("Parse of MaxFields: %d, %d, %v", len(h.Fields), n, e)
	}
	failsAt(t, true, text+"a: b\r\n", api.ErrLarge)
	failsAt(t, true, text+"a:\r\n", api.ErrLarge)
	failsAt(t, false, responseLine+lines+"a: b\r\n", api.ErrLarge)
	for line, want := range map[string]api.Errno{" a: b": api.ErrFold, "a": api.ErrColon, "a : b": api.ErrSpace, "(: b": api.ErrName, "a: \x00": api.ErrValue} {
		failsAt(t, true, text+line+"\r\n", want)
	}
	failsAt(t, true, text+"a: b\n", api.ErrBare)
	failsAt(t, true, text+"\n", api.ErrBare)
}

// Where two things are wrong at one byte, the first that the chapter names is told: ErrBare, ErrLarge, what a line's end shows.
func TestFirstAtOneByte(t *testing.T) {
	line := "GET /x HTTP/1.1" // 15 bytes, and its end makes 17
	feeds(t, made(t, true, 16), line+"\r\n", 17, false, api.ErrLarge)
	feeds(t, made(t, true, 17), line+"\r\n", 17, false, api.OK)
	feeds(t, made(t, true, 16), "GET /xHTTP/1.1 \r\n", 17, false, api.ErrLarge)
	feeds(t, made(t, true, 17), "GET /xHTTP/1.1 \r\n", 17, false, api.ErrStart)
	feeds(t, made(t, true, 16), line+"x\n", 17, false, api.ErrBare)
	feeds(t, made(t, true, 16), line+"\rx", 17, false, api.ErrBare)
	feeds(t, made(t, true, 16), line+"\r\r", 17, false, api.ErrBare)
	feeds(t, made(t, true, 16), line+"xx", 17, false, api.ErrLarge)
	feeds(t, made(t, true, 16), line+"x\r", 17, false, api.ErrLarge)
	// the byte ahead of it is wrong already
	feeds(t, made(t, true, 16), line[:14]+"\rx\n", 16, false, api.ErrBare)
}

// pieces feeds a text in pieces whose sizes are told, and tells what all of them tell together.
func pieces(p *head.Parser, b []byte, size func() int) (int, bool, api.Errno) {
	read := 0
	for {
		n := min(size(), len(b)-read)
		got, whole, e := p.Feed(b[read : read+n])
		read += got
		if whole || e != api.OK || read == len(b) {
			return read, whole, e
		}
	}
}

// 8.4 (P3): pieces of every size, and empty ones between.
func TestPieces(t *testing.T) {
	for _, c := range []struct {
		request bool
		text    string
	}{
		{true, "\r\n\r\nGET /a HTTP/1.1\r\nHost: a\r\nX:\t b \r\n\r\nGET / HTTP/1.1\r\n\r\n"},
		{true, "POST * HTTP/1.0\r\n\r\n"},
		{true, "GET / HTTP/1.1\r\nHost: a\r\nb: c\r\n d\r\n\r\n"},
		{true, "GET / HTTP/1.1\r\nHost: a\rb\r\n\r\n"},
		{true, "GET / HTTP/3.0\r\n\r\n"},
		{true, "GET / HTTP/1.1\r\nHost: a\r\n"},
		{false, "HTTP/1.1 204 No Content\r\nA: b\r\nA: \tc\r\n\r\nbehind"},
		{false, "HTTP/1.1 204\r\n\r\n"},
	} {
		for _, most := range []int{16, 30, api.MaxHead} {
			one := made(t, c.request, most)
			n, whole, e := one.Feed([]byte(c.text))
			for size := 1; size <= len(c.text); size++ {
				for _, empty := range []int{0, 1, 3} {
					turn := 0
					p := made(t, c.request, most)
					gotN, gotWhole, got := pieces(p, []byte(c.text), func() int {
						if turn++; empty > 0 && turn%(empty+1) != 0 {
							return 0
						}
						return size
					})
					if gotN != n || gotWhole != whole || got != e || !same(p.Head(), one.Head()) {
						t.Fatalf("%q in pieces of %d: %d, %v, %v, %q; want %d, %v, %v", c.text, size, gotN, gotWhole, got, show(p.Head()), n, whole, e)
					}
				}
			}
			for i := range len(c.text) { // parted in two
				p := made(t, c.request, most)
				gotN, gotWhole, got := p.Feed([]byte(c.text[:i]))
				if !gotWhole && got == api.OK {
					var more int
					more, gotWhole, got = p.Feed([]byte(c.text[i:]))
					gotN += more
				}
				if gotN != n || gotWhole != whole || got != e || !same(p.Head(), one.Head()) {
					t.Fatalf("%q parted at %d: %d, %v, %v", c.text, i, gotN, gotWhole, got)
				}
			}
		}
	}
}

const (
	tokenForm = "[A-Za-z0-9!#$%&'*+.^_`|~-]+"
	seen      = `[!-~\x{80}-\x{10ffff}]`
	shown     = `[\t -~\x{80}-\x{10ffff}]`
)

var (
	requestForm  = regexp.MustCompile("^(" + tokenForm + ") ([!-~]+) HTTP/([0-9]\\.[0-9])$")
	responseForm = regexp.MustCompile("^HTTP/([0-9]\\.[0-9]) ([1-5][0-9][0-9]) (" + shown + "*)$")
	foldForm     = regexp.MustCompile("^[\t ]")
	spaceForm    = regexp.MustCompile("^[^:]*[\t ]:")
	nameForm     = regexp.MustCompile("^" + tokenForm + ":")
	valueForm    = regexp.MustCompile("^([^:]*):[\t ]*((?:" + seen + "(?:" + shown + "*" + seen + ")?)?)[\t ]*$")
)

// modelFirst reads a first line.
func modelFirst(h *api.Head, line string) api.Errno {
	version := ""
	if h.Request {
		m := requestForm.FindStringSubmatch(line)
		if m == nil {
			return api.ErrStart
		}
		h.Method, h.Target, version = m[1], m[2], m[3]
	} else {
		m := responseForm.FindStringSubmatch(line)
		if m == nil {
			return api.ErrStart
		}
		version = m[1]
		h.Status, _ = strconv.Atoi(m[2])
		h.Reason = m[3]
	}
	if version != "1.0" && version != "1.1" {
		return api.ErrVersion
	}
	h.Minor = int(version[2] - '0')
	return api.OK
}

// modelField reads a field's line.
func modelField(h *api.Head, line string) api.Errno {
	switch {
	case foldForm.MatchString(line):
		return api.ErrFold
	case !strings.Contains(line, ":"):
		return api.ErrColon
	case spaceForm.MatchString(line):
		return api.ErrSpace
	case !nameForm.MatchString(line):
		return api.ErrName
	case !valueForm.MatchString(line):
		return api.ErrValue
	case len(h.Fields) >= api.MaxFields:
		return api.ErrLarge
	}
	m := valueForm.FindStringSubmatch(line)
	h.Fields = append(h.Fields, api.Field{Name: m[1], Value: m[2]})
	return api.OK
}

// model is what a parser is to tell, found by looking at every front of a text.
func model(request bool, most int, text string) (api.Head, int, bool, api.Errno) {
	h := api.Head{Request: request}
	from, begun, passed := 0, false, 0
	for i := 1; i <= len(text); i++ {
		front := text[:i]
		line := text[from:i]
		switch {
		case strings.HasSuffix(front, "\n") && !strings.HasSuffix(front, "\r\n"), i > 1 && text[i-2] == '\r' && text[i-1] != '\n':
			return api.Head{}, i, false, api.ErrBare
		case i > most, len(strings.TrimRight(line, "\r\n")) > api.MaxLine:
			return api.Head{}, i, false, api.ErrLarge
		case !strings.HasSuffix(front, "\r\n"):
			continue
		}
		line, from = line[:len(line)-2], i
		e := api.OK
		switch {
		case begun && line == "":
			return h, i, true, api.OK
		case begun:
			e = modelField(&h, line)
		case request && line == "" && passed < 4:
			passed++
		default:
			begun, e = true, modelFirst(&h, line)
		}
		if e != api.OK {
			return api.Head{}, i, false, e
		}
	}
	return api.Head{}, len(text), false, api.OK
}

// drawn is a text that is nearly a head.
func drawn(r *rand.Rand, request bool) string {
	firsts := []string{"GET / HTTP/1.1", "POST /a?b HTTP/1.0", "A * HTTP/1.1", "GET  / HTTP/1.1", "GET / HTTP/1.2", "GET /", "HTTP/1.1 200 OK", ""}
	if !request {
		firsts = []string{"HTTP/1.1 200 OK", "HTTP/1.0 404 ", "HTTP/1.1 500 a b\xff", "HTTP/2.0 200 OK", "HTTP/1.1 200", "HTTP/1.1 600 x", "GET / HTTP/1.1", ""}
	}
	lines := []string{"Host: a", "a:b", "a:", "X:\t y ", "a: b: c", "é: b", "a : b", " a", "a", ": b", "a: \x01", "\t", "b: \xff"}
	ends := []string{"\r\n", "\r\n", "\r\n", "\r\n", "\r\n", "\r\n", "\r\n", "\r\n", "\r\n", "\r\n", "\r\n", "\r\n", "\r\n", "\r\n", "\r\n", "\n", "\r", "\r\r\n", "\n\r", ""}
	near := func(l []string, right int) string { // mostly one of those that are right
		if r.Intn(10) > 0 {
			return l[r.Intn(right)]
		}
		return l[r.Intn(len(l))]
	}
	var b strings.Builder
	for range r.Intn(7) * r.Intn(2) {
		b.WriteString("\r\n")
	}
	b.WriteString(near(firsts, 3) + near(ends, 15))
	for range r.Intn(6) {
		b.WriteString(near(lines, 5) + near(ends, 15))
	}
	b.WriteString(near(ends, 15))
	text := []byte(b.String() + []string{"", "behind", "\r\n"}[r.Intn(3)])
	if r.Intn(4) == 0 && len(text) > 0 {
		text[r.Intn(len(text))] = byte(r.Intn(256))
	}
	return string(text)
}

// 8.1, 8.2, 8.4: texts that are drawn, in pieces that are drawn, held against the model.
func TestModel(t *testing.T) {
	r := rand.New(rand.NewSource(8))
	met := map[api.Errno]int{}
	for range 60000 {
		request := r.Intn(2) == 0
		text, most := drawn(r, request), 16+r.Intn(120)
		h, n, whole, e := model(request, most, text)
		p := made(t, request, most)
		gotN, gotWhole, got := pieces(p, []byte(text), func() int { return r.Intn(9) })
		if gotN != n || gotWhole != whole || got != e || !same(p.Head(), h) {
			t.Fatalf("Feed(%v, %d, %q): %d, %v, %v, %q; want %d, %v, %v, %q", request, most, text, gotN, gotWhole, got, show(p.Head()), n, whole, e, show(h))
		}
		met[e]++
		switch h, n, whole, e = model(request, api.MaxHead, text); {
		case whole:
			parses(t, request, text, h, n)
		case e == api.OK:
			parseFails(t, request, text, api.ErrNone)
		default:
			parseFails(t, request, text, e)
		}
	}
	for _, e := range []api.Errno{api.OK, api.ErrStart, api.ErrBare, api.ErrFold, api.ErrSpace, api.ErrColon, api.ErrLarge, api.ErrVersion, api.ErrName, api.ErrValue} {
		if met[e] < 50 {
			t.Errorf("%v was met %d times alone", e, met[e])
		}
	}
}

// R3: what is fed is neither changed nor kept, nor the room behind it.
func TestFedIsNotKept(t *testing.T) {
	text := "GET /abc HTTP/1.1\r\nName: value\r\nOther: more\r\n\r\nbehind"
	for size := 1; size <= len(text); size++ {
		p := made(t, true, 100)
		for at := 0; at < len(text); at += size {
			b := []byte(text)
			p.Feed(b[at:min(at+size, len(text))])
			if string(b) != text {
				t.Fatalf("Feed changed what was fed: %q", b)
			}
			for i := range b {
				b[i] = '#'
			}
		}
		if h := p.Head(); !same(h, request("GET", "/abc", 1, "Name", "value", "Other", "more")) {
			t.Fatalf("Head, in pieces of %d that were changed: %q", size, show(h))
		}
	}
	b := []byte(text)
	h, _, _ := head.Parse(true, b[:len(text)-6])
	if string(b) != text {
		t.Errorf("Parse changed what it was given: %q", b)
	}
	for i := range b {
		b[i] = '#'
	}
	if !same(h, request("GET", "/abc", 1, "Name", "value", "Other", "more")) {
		t.Errorf("Parse kept what it was given: %q", show(h))
	}
}

// R3: what Head tells shares nothing with what the parser keeps, with another answer, or within itself.
func TestHeadIsNew(t *testing.T) {
	for _, first := range []string{requestLine, responseLine} {
		p := made(t, first == requestLine, 100)
		feeds(t, p, first+"Name: value\r\nOther: more\r\nx: y\r\n\r\n", len(first)+34, true, api.OK)
		a, b := p.Head(), p.Head()
		texts := func(h api.Head) []string {
			out := []string{h.Method, h.Target, h.Reason}
			for _, f := range h.Fields {
				out = append(out, f.Name, f.Value)
			}
			return out
		}
		for i, x := range texts(a) {
			for _, y := range texts(b) {
				if shares(x, y) {
					t.Errorf("two heads share %q and %q", x, y)
				}
			}
			for j, y := range texts(a) {
				if i != j && shares(x, y) {
					t.Errorf("a head shares %q and %q", x, y)
				}
			}
		}
		was := slices.Clone(b.Fields)
		a.Fields = a.Fields[:cap(a.Fields)]
		for i := range a.Fields {
			a.Fields[i] = api.Field{Name: "changed", Value: "changed"}
		}
		if !slices.Equal(b.Fields, was) || !slices.Equal(p.Head().Fields, was) {
			t.Errorf("a changed head changed %q, %q", b.Fields, p.Head().Fields)
		}
	}
}

// P1: long texts, and texts of any bytes, end.
func TestAnyBytes(t *testing.T) {
	for _, b := range []string{"a", " ", "\r\n", "\n", "\r", "\x00", ":", "a: b\r\n", "\xff"} {
		long := bytes.Repeat([]byte(b), api.MaxBytes/len(b))
		for _, ahead := range []string{"", requestLine, responseLine} {
			for _, request := range []bool{true, false} {
				head.Parse(request, append([]byte(ahead), long...))
			}
		}
	}
	p := made(t, true, api.MaxHead)
	feeds(t, p, strings.Repeat("a", api.MaxBytes), api.MaxLine+1, false, api.ErrLarge)
	r := rand.New(rand.NewSource(1))
	for range 20000 {
		b := make([]byte, r.Intn(60))
		r.Read(b)
		for i := range b {
			if r.Intn(3) == 0 {
				b[i] = "\r\n: \tG/HTP1."[r.Intn(12)]
			}
		}
		for _, request := range []bool{true, false} {
			_, n, whole, e := model(request, 40, string(b))
			feeds(t, made(t, request, 40), string(b), n, whole, e)
		}
	}
}

// R6: the same bytes tell the same, and parsers do not know of one another.
func TestParsersApart(t *testing.T) {
	a, b := made(t, true, 100), made(t, false, 100)
	feeds(t, a, "GET / HT", 8, false, api.OK)
	feeds(t, b, "HTTP/1.1 2", 10, false, api.OK)
	feeds(t, a, "TP/1.1\r\nx: ", 11, false, api.OK)
	feeds(t, b, "00 OK\r\ny: z\r\n\r\n", 15, true, api.OK)
	feeds(t, a, "1\r\n\r\n", 5, true, api.OK)
	if !same(a.Head(), request("GET", "/", 1, "x", "1")) || !same(b.Head(), response(1, 200, "OK", "y", "z")) {
		t.Errorf("%q, %q", show(a.Head()), show(b.Head()))
	}
}
