package write_test

import (
	"math"
	"math/rand"
	"slices"
	"strconv"
	"strings"
	"testing"

	"headrace/api"
	"headrace/framing"
	"headrace/write"
)

// response is a response's head.
func response(status int, parts ...string) api.Head {
	return api.Head{Minor: 1, Status: status, Reason: "OK", Fields: list(parts...)}
}

func goesBack(t *testing.T, h api.Head, c write.Client, shape write.Shape, want ...string) {
	t.Helper()
	text := lines(want...)
	if s, x, e := write.Response(h, by, c); s != text || x != shape || e != api.OK {
		t.Errorf("Response(%+v, %+v): %.300q, %+v, %v; want %.300q, %+v", h, c, s, x, e, text, shape)
	}
	readsBack(t, h, text, c, shape)
}

// readsBack tells that a text is a right head of a response, of which nothing is stripped, whose framing is the one in which the body is sent, and whose connection is kept as it is told (12.4).
func readsBack(t *testing.T, from api.Head, text string, c write.Client, shape write.Shape) {
	t.Helper()
	h := readAgain(t, false, text)
	was, _ := framing.Response(from, c.Method)
	want := api.Framing{Kind: was.Kind, Length: was.Length, Keep: shape.Keep}
	switch {
	case shape.Chunked:
		want.Kind = api.FrChunked
	case was.Kind == api.FrChunked:
		want.Kind = api.FrClose
	}
	if f, e := framing.Response(h, c.Method); e != api.OK || f != want || h.Minor != 1 || h.Status != from.Status || h.Reason != from.Reason {
		t.Errorf("%.300q is read as %+v, %v; want %+v", text, f, e, want)
	}
	if keep := framing.Keep(h); keep != shape.Keep {
		t.Errorf("%.300q keeps the connection: %v", text, keep)
	}
	nothingStripped(t, h.Fields)
}

func stopsBack(t *testing.T, h api.Head, name string, c write.Client, want api.Errno) {
	t.Helper()
	if s, x, e := write.Response(h, name, c); s != "" || x != (write.Shape{}) || e != want {
		t.Errorf("Response(%+v, %.80q, %+v): %.300q, %+v, %v; want %v", h, name, c, s, x, e, want)
	}
}

const (
	okLine   = "HTTP/1.1 200 OK"
	viaLine  = "Via: 1.1 headrace"
	codeLine = "Transfer-Encoding: chunked"
	endLine  = "Connection: close"
	stayLine = "Connection: keep-alive"
)

// 12.2: each framing, to clients of Minor 0 and 1, kept and not kept.
func TestResponseShapes(t *testing.T) {
	old, oldKept, newer, newerKept := write.Client{Method: "GET"}, write.Client{Method: "GET", Keep: true}, write.Client{Method: "GET", Minor: 1}, write.Client{Method: "GET", Minor: 1, Keep: true}
	kept := write.Shape{Keep: true}
	// FrLength: the length stays
	h := response(200, "Content-Length", "5")
	goesBack(t, h, old, write.Shape{}, okLine, "Content-Length: 5", viaLine, endLine)
	goesBack(t, h, oldKept, kept, okLine, "Content-Length: 5", viaLine, stayLine)
	goesBack(t, h, newer, write.Shape{}, okLine, "Content-Length: 5", viaLine, endLine)
	goesBack(t, h, newerKept, kept, okLine, "Content-Length: 5", viaLine)
	// FrChunked and FrClose: in chunks, or closed
	for _, h := range []api.Head{response(200, "Transfer-Encoding", "chunked"), response(200), response(200, "transfer-encoding", "Chunked", "Connection", "close"), response(200, "Connection", "keep-alive")} {
		goesBack(t, h, old, write.Shape{}, okLine, viaLine, endLine)
		goesBack(t, h, oldKept, write.Shape{}, okLine, viaLine, endLine)
		goesBack(t, h, newer, write.Shape{Chunked: true}, okLine, viaLine, codeLine, endLine)
		goesBack(t, h, newerKept, write.Shape{Chunked: true, Keep: true}, okLine, viaLine, codeLine)
	}
	// FrNone: whatever is told of a body that does not come
	for _, status := range []int{100, 103, 199, 204, 304} {
		first := "HTTP/1.1 " + strconv.Itoa(status) + " OK"
		for _, h := range []api.Head{response(status), response(status, "Transfer-Encoding", "chunked"), response(status, "Transfer-Encoding", "gzip")} {
			goesBack(t, h, old, write.Shape{}, first, viaLine, endLine)
			goesBack(t, h, oldKept, kept, first, viaLine, stayLine)
			goesBack(t, h, newer, write.Shape{}, first, viaLine, endLine)
			goesBack(t, h, newerKept, kept, first, viaLine)
		}
		goesBack(t, response(status, "Content-Length", "7", "Transfer-Encoding", "chunked"), newerKept, kept, first, "Content-Length: 7", viaLine)
	}
}

// 12.2: to HEAD there is no body: a length that is told stays, nothing goes in chunks.
func TestResponseHead(t *testing.T) {
	for _, minor := range []int{0, 1} {
		for _, parts := range [][]string{nil, {"Transfer-Encoding", "chunked"}, {"Content-Length", "5"}, {"Content-Length", "x"}, {"Content-Length", "5", "Transfer-Encoding", "chunked"}} {
			want := []string{okLine}
			if len(parts) > 0 && parts[0] == "Content-Length" {
				want = append(want, "Content-Length: "+parts[1])
			}
			want = append(want, viaLine)
			goesBack(t, response(200, parts...), write.Client{Method: "HEAD", Minor: minor}, write.Shape{}, append(want, endLine)...)
			if minor == 0 {
				want = append(want, stayLine)
			}
			goesBack(t, response(200, parts...), write.Client{Method: "HEAD", Minor: minor, Keep: true}, write.Shape{Keep: true}, want...)
		}
	}
	for _, method := range []string{"head", "Head", "HEADS", "", "GET", "POST"} { // these have one
		goesBack(t, response(200), write.Client{Method: method, Minor: 1, Keep: true}, write.Shape{Chunked: true, Keep: true}, okLine, viaLine, codeLine)
	}
}

// 12.2: what does not go back, in great and small letters; all others stay, in their order.
func TestResponseFields(t *testing.T) {
	c, kept := write.Client{Method: "GET", Minor: 1, Keep: true}, write.Shape{Keep: true}
	for _, name := range []string{"Connection", "Keep-Alive", "Proxy-Connection", "TE", "Upgrade", "Trailer"} {
		for _, spelt := range []string{name, strings.ToLower(name), strings.ToUpper(name)} {
			goesBack(t, response(200, "A", "1", spelt, "close", "Content-Length", "0", spelt, "x", "A", "3"), c, kept, okLine, "A: 1", "Content-Length: 0", "A: 3", viaLine)
		}
	}
	goesBack(t, response(200, "Expect", "1", "Host", "2", "X-Trailer", "3", "content-LENGTH", "5, 5", "Content-Length", "05"), c, kept, okLine, "Expect: 1", "Host: 2", "X-Trailer: 3", "content-LENGTH: 5, 5", "Content-Length: 05", viaLine)
	goesBack(t, response(200, "Connection", "X-A, x-b", "x-a", "1", "X-B", "2", "X-C", "3", "CONNECTION", "Accept", "accept", "4"), c, write.Shape{Chunked: true, Keep: true}, okLine, "X-C: 3", viaLine, codeLine)
	goesBack(t, response(200, "Via", "1.0 other", "A", "b", "Content-Length", "1"), c, kept, okLine, "Via: 1.0 other", "A: b", "Content-Length: 1", viaLine)
	// a field that has the name of what connection says is no connection's
	if s, _, e := write.Response(response(204, "Close", "1"), by, write.Client{Minor: 1}); s != lines("HTTP/1.1 204 OK", "Close: 1", viaLine, endLine) || e != api.OK {
		t.Errorf("Response with Close: %q, %v", s, e)
	}
}

// 12.4: a length by which the body is sent stays, though connection names it: the client would look for another end.
func TestResponseLengthNamed(t *testing.T) {
	for _, named := range []string{"content-length", "Content-Length", "close, CONTENT-LENGTH, x"} {
		h := response(200, "A", "1", "Connection", named, "Content-length", "5", "X", "2", "X", "3", "connection", "x", "B", "4")
		goesBack(t, h, write.Client{Minor: 1, Keep: true}, write.Shape{Keep: true}, okLine, "A: 1", "Content-length: 5", "B: 4", viaLine)
		goesBack(t, h, write.Client{Keep: true}, write.Shape{Keep: true}, okLine, "A: 1", "Content-length: 5", "B: 4", viaLine, stayLine)
		goesBack(t, h, write.Client{Method: "HEAD", Minor: 1, Keep: true}, write.Shape{Keep: true}, okLine, "A: 1", "B: 4", viaLine) // no body is sent by it
		goesBack(t, response(200, "Connection", named), write.Client{Minor: 1}, write.Shape{Chunked: true}, okLine, viaLine, codeLine, endLine)
	}
}

// 12.2: Via tells in which version the response came, whatever the client's is.
func TestResponseVia(t *testing.T) {
	for minor, version := range []string{"1.0", "1.1"} {
		for _, name := range []string{"headrace", "x", "!#$%&'*+-.^_`|~09azAZ"} {
			for _, later := range []int{0, 1} {
				h := response(204)
				h.Minor = minor
				want := lines("HTTP/1.1 204 OK", "Via: "+version+" "+name, endLine)
				if s, x, e := write.Response(h, name, write.Client{Minor: later}); s != want || x != (write.Shape{}) || e != api.OK {
					t.Errorf("Response by %q: %q, %+v, %v; want %q", name, s, x, e, want)
				}
			}
		}
	}
}

// 12.2: each error, ahead of those that the chapter names behind it.
func TestResponseWrong(t *testing.T) {
	right := []write.Client{{}, {Method: "GET", Minor: 1, Keep: true}, {Method: "POST", Keep: true}}
	wrong := []write.Client{{Minor: 2}, {Minor: -1}, {Method: "HEAD", Minor: 10, Keep: true}, {Minor: math.MinInt}, {Minor: math.MaxInt}}
	both, unlike, coded := response(200, "Content-Length", "5", "Transfer-Encoding", "chunked"), response(200, "Content-Length", "5, 6"), response(200, "Transfer-Encoding", "gzip, chunked")
	heads := []api.Head{response(200), both, unlike, coded, response(600), response(200, "", "")}
	asked := api.Head{Request: true, Method: "GET", Target: "/", Minor: 1}
	for _, name := range []string{by, "", "a b"} { // ErrArg is named ahead of ErrName
		for _, c := range append(right, wrong...) {
			stopsBack(t, asked, name, c, api.ErrArg)
			stopsBack(t, api.Head{Request: true, Status: 200, Fields: both.Fields}, name, c, api.ErrArg)
		}
		for _, c := range wrong {
			for _, h := range heads {
				stopsBack(t, h, name, c, api.ErrArg)
			}
		}
	}
	for _, name := range []string{"", " ", "a b", "a,b", "(", "é", "a\r\n", "a\x00"} {
		for _, c := range right {
			for _, h := range heads {
				stopsBack(t, h, name, c, api.ErrName)
			}
		}
	}
	for _, c := range right {
		for _, bad := range [][]api.Field{nil, list("", ""), list("A", "\n")} { // what can't be printed comes behind
			for want, h := range map[api.Errno]api.Head{api.ErrBoth: both, api.ErrLengths: unlike, api.ErrCoding: coded} {
				h.Fields = slices.Concat(h.Fields, bad)
				stopsBack(t, h, by, c, want)
			}
		}
		h := response(200, "Transfer-Encoding", "chunked")
		h.Minor = 0
		stopsBack(t, h, by, c, api.ErrCoding)
	}
}

// 12.2: ErrForm, where the head that goes back can't be printed.
func TestResponseNotPrinted(t *testing.T) {
	for _, c := range []write.Client{{}, {Method: "GET", Minor: 1, Keep: true}, {Method: "HEAD", Minor: 1}} {
		for _, status := range []int{99, 0, -1, 600, 1000, math.MinInt, math.MaxInt} {
			stopsBack(t, response(status), by, c, api.ErrForm)
		}
		for _, reason := range []string{"a\r\nB: c", "\n", "\x00", "a\x7f"} {
			h := response(200)
			h.Reason = reason
			stopsBack(t, h, by, c, api.ErrForm)
		}
		for _, f := range [][]string{{"", "x"}, {"a b", "x"}, {"a:", "x"}, {"a", "x\r\nB: c"}, {"a", "x\n"}, {"a", " x"}, {"a", "x\t"}, {"a", "\x00"}, {"a", "\x7f"}, {"a\r\nb", "x"}, {"é", "x"}} {
			stopsBack(t, response(200, "Content-Length", "3", f[0], f[1]), by, c, api.ErrForm)
		}
		for _, minor := range []int{-1, 2, 10, math.MinInt, math.MaxInt} { // no version that there is
			h := response(200)
			h.Minor = minor
			stopsBack(t, h, by, c, api.ErrForm)
		}
		h := response(200) // what a request alone has
		h.Method = "GET"
		stopsBack(t, h, by, c, api.ErrForm)
		h.Method, h.Target = "", "/"
		stopsBack(t, h, by, c, api.ErrForm)
	}
	// a reason may be empty, and have blanks at its ends
	h := response(204)
	for _, reason := range []string{"", " a\t", "\x80"} {
		h.Reason = reason
		goesBack(t, h, write.Client{Minor: 1, Keep: true}, write.Shape{Keep: true}, "HTTP/1.1 204 "+reason, viaLine)
	}
}

// 12.2: as many fields and as long a head as may be, and one more.
func TestResponseBounds(t *testing.T) {
	for _, c := range []struct {
		client write.Client
		shape  write.Shape
		added  []string
	}{
		{write.Client{Minor: 1, Keep: true}, write.Shape{Chunked: true, Keep: true}, []string{viaLine, codeLine}}, {write.Client{Minor: 1}, write.Shape{Chunked: true}, []string{viaLine, codeLine, endLine}}, {write.Client{Keep: true}, write.Shape{}, []string{viaLine, endLine}},
	} {
		h := response(200)
		h.Fields = many(api.MaxFields - len(c.added))
		goesBack(t, h, c.client, c.shape, append(append([]string{okLine}, fieldLines(h.Fields)...), c.added...)...)
		h.Fields = many(api.MaxFields - len(c.added) + 1)
		stopsBack(t, h, by, c.client, api.ErrForm)
	}
	value := strings.Repeat("v", api.MaxLine-len("A: "))
	h := response(200)
	h.Fields = slices.Repeat(list("A", value), 7)
	rest := api.MaxHead - len(lines(append([]string{okLine, viaLine, codeLine, endLine, "B: "}, fieldLines(h.Fields)...)...))
	h.Fields = append(h.Fields, list("B", value[:rest])...)
	goesBack(t, h, write.Client{Minor: 1}, write.Shape{Chunked: true}, append(append([]string{okLine}, fieldLines(h.Fields)...), viaLine, codeLine, endLine)...)
	h.Fields[7].Value += "v"
	stopsBack(t, h, by, write.Client{Minor: 1}, api.ErrForm)
}

// 12.2, 12.4, R6: responses that are drawn, held against the model; each is asked twice.
func TestResponseModel(t *testing.T) {
	r := rand.New(rand.NewSource(13))
	met := map[int]int{}
	for range 20000 {
		h := response([]int{100, 200, 200, 200, 204, 304, 404, 502}[r.Intn(8)])
		h.Minor, h.Fields = r.Intn(2), drawnFields(r)
		c := write.Client{Method: []string{"GET", "GET", "HEAD"}[r.Intn(3)], Minor: r.Intn(2), Keep: r.Intn(2) == 0}
		f, e := framing.Response(h, c.Method)
		if e != api.OK {
			stopsBack(t, h, by, c, e)
			continue
		}
		met[f.Kind]++
		needed := ""
		if f.Kind == api.FrLength {
			needed = "content-length"
		}
		l := append(modelWithout(modelStrip(h.Fields, needed), "trailer"), api.Field{Name: "Via", Value: "1." + strconv.Itoa(h.Minor) + " headrace"})
		shape := write.Shape{Keep: c.Keep}
		if f.Kind == api.FrChunked || f.Kind == api.FrClose {
			l = modelWithout(l, "content-length")
			shape = write.Shape{Chunked: c.Minor == 1, Keep: c.Keep && c.Minor == 1}
		}
		want := append([]string{"HTTP/1.1 " + strconv.Itoa(h.Status) + " OK"}, fieldLines(l)...)
		if shape.Chunked {
			want = append(want, codeLine)
		}
		if !shape.Keep {
			want = append(want, endLine)
		} else if c.Minor == 0 {
			want = append(want, stayLine)
		}
		for range 2 {
			goesBack(t, h, c, shape, want...)
		}
		if t.Failed() {
			return
		}
	}
	for _, kind := range []int{api.FrNone, api.FrLength, api.FrChunked, api.FrClose} {
		if met[kind] < 200 {
			t.Errorf("the kind %d was met %d times alone", kind, met[kind])
		}
	}
}

// R3: a head is not changed, nor the room behind its fields; the text is new memory.
func TestResponseMemory(t *testing.T) {
	for _, status := range []int{200, 204, 600} {
		all := list("Host", "h", "Connection", "X-A, content-length", "X-A", "1", "Content-Length", "5", "B", "2", "Spare", "3", "Room", "4", "More", "5")
		was := slices.Clone(all)
		h := api.Head{Status: status, Reason: "OK", Minor: 0, Fields: all[:5]}
		one, _, _ := write.Response(h, by, write.Client{})
		two, _, _ := write.Response(h, by, write.Client{})
		if !slices.Equal(all, was) || h.Minor != 0 || len(h.Fields) != 5 {
			t.Errorf("changed: %+v, %q; was %q", h, all, was)
		}
		if shares(one, two) || shares(one, by) || one != two {
			t.Errorf("%q shares memory, or is not told again", one)
		}
	}
}

// P1: heads of any kind end: many fields, long ones, bytes of any kind.
func TestAnyHead(t *testing.T) {
	long := strings.Repeat("x,", api.MaxBytes/2)
	for _, name := range []string{"Connection", "Host", "Content-Length", "Transfer-Encoding", "A"} {
		stopsLong := api.Head{Request: true, Method: "GET", Target: "/", Minor: 1, Fields: slices.Repeat(list(name, long), 3)}
		write.Request(stopsLong, by, 1)
		stopsLong.Request = false
		write.Response(stopsLong, by, write.Client{})
	}
	h := request("GET", "/")
	h.Fields = many(100000)
	stops(t, h, by, -1, api.ErrForm)
	stops(t, request("GET", "/"), strings.Repeat("b", api.MaxBytes), -1, api.ErrForm)
	r := rand.New(rand.NewSource(3))
	text := func() string {
		b := make([]byte, r.Intn(12))
		r.Read(b)
		return string(b)
	}
	for range 20000 {
		h := api.Head{Request: r.Intn(2) == 0, Method: "GET", Target: "/" + text(), Minor: r.Intn(3), Status: r.Intn(700), Reason: text()}
		for range r.Intn(3) {
			h.Fields = append(h.Fields, api.Field{Name: []string{"Connection", "Host", text()}[r.Intn(3)], Value: text()})
		}
		if s, e := write.Request(h, by, r.Intn(9)-2); (s == "") != (e != api.OK) {
			t.Errorf("Request(%+v): %q, %v", h, s, e)
		}
		h.Method, h.Target = "", ""
		if s, x, e := write.Response(h, by, write.Client{Method: text(), Minor: r.Intn(2), Keep: true}); (s == "") != (e != api.OK) || s == "" && x != (write.Shape{}) {
			t.Errorf("Response(%+v): %q, %+v, %v", h, s, x, e)
		}
	}
}
