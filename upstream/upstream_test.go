package upstream_test

import (
	"fmt"
	"math"
	"reflect"
	"slices"
	"strings"
	"testing"
	"unsafe"

	"headrace/api"
	"headrace/upstream"
)

const (
	line    = "HTTP/1.1 200 OK\r\n"
	oldLine = "HTTP/1.0 200 OK\r\n"
	coded   = line + "Transfer-Encoding: chunked\r\n\r\n"
	interim = "HTTP/1.1 103 X\r\n\r\n"
)

// view is all that a reader tells without a change.
type view struct {
	head         api.Head
	known        bool
	framing      api.Framing
	whole, again bool
}

// response is a head, with fields by their names and values.
func response(minor, status int, reason string, parts ...string) api.Head {
	h := api.Head{Minor: minor, Status: status, Reason: reason}
	for i := 0; i+1 < len(parts); i += 2 {
		h.Fields = append(h.Fields, api.Field{Name: parts[i], Value: parts[i+1]})
	}
	return h
}

// none, length, inChunks and toEnd are framings.
func none(keep bool) api.Framing { return api.Framing{Kind: api.FrNone, Keep: keep} }

func length(n int, keep bool) api.Framing {
	return api.Framing{Kind: api.FrLength, Length: n, Keep: keep}
}

func inChunks(keep bool) api.Framing { return api.Framing{Kind: api.FrChunked, Keep: keep} }

func toEnd() api.Framing { return api.Framing{Kind: api.FrClose} }

// message is a response's text, for which method it is, and what it says.
type message struct {
	method, text string
	head         api.Head
	framing      api.Framing
	body         string
}

// partly is a reader that has read the response's head, and not all of its body.
func (m message) partly() view { return view{head: m.head, known: true, framing: m.framing} }

// whole is a reader that has read the response.
func (m message) whole() view {
	v := m.partly()
	v.whole, v.again = true, m.framing.Keep
	return v
}

// ended is a reader that has read the response, and whose connection ended.
func (m message) ended() view {
	v := m.whole()
	v.again = false
	return v
}

// start is how many bytes stand ahead of the body.
func (m message) start() int {
	at := strings.Index(m.text, fmt.Sprintf(" %d %s\r\n", m.head.Status, m.head.Reason))
	return at + strings.Index(m.text[at:], "\r\n\r\n") + 4
}

// made is a new reader.
func made(t *testing.T, method string, most int) *upstream.Reader {
	t.Helper()
	r, e := upstream.New(method, most)
	if r == nil || e != api.OK {
		t.Fatalf("New(%q, %d): %v, %v", method, most, r, e)
	}
	return r
}

// seen is what a reader tells.
func seen(r *upstream.Reader) view {
	h, known := r.Head()
	if len(h.Fields) == 0 {
		h.Fields = nil
	}
	return view{h, known, r.Framing(), r.Whole(), r.Again()}
}

// stands tells how a reader stands; to ask changes nothing.
func stands(t *testing.T, r *upstream.Reader, want view) {
	t.Helper()
	for range 2 {
		if got := seen(r); !reflect.DeepEqual(got, want) {
			t.Errorf("it stands at %.300q; want %.300q", fmt.Sprintf("%+v", got), fmt.Sprintf("%+v", want))
		}
	}
}

func reads(t *testing.T, r *upstream.Reader, b string, n int, body string, e api.Errno, want view) {
	t.Helper()
	if got, told, gotE := r.Read([]byte(b)); got != n || string(told) != body || gotE != e {
		t.Errorf("Read(%.80q): %d, %.80q, %v; want %d, %.80q, %v", b, got, told, gotE, n, body, e)
	}
	stands(t, r, want)
}

func ends(t *testing.T, r *upstream.Reader, e api.Errno, want view) {
	t.Helper()
	if got := r.End(); got != e {
		t.Errorf("End: %v; want %v", got, e)
	}
	stands(t, r, want)
}

// stays tells that a reader is over: nothing more is read; the end changes nothing but that the connection is not used again.
func stays(t *testing.T, r *upstream.Reader, e api.Errno, want view) {
	t.Helper()
	for range 2 {
		for _, b := range []string{"", "x", "\r\n", line + "\r\n", interim, "0\r\n\r\n", strings.Repeat("y", 3000)} {
			reads(t, r, b, 0, "", e, want)
		}
		want.again = false
		ends(t, r, e, want)
	}
}

// wrongAt tells that something is wrong at a text's last byte, not ahead of it, with which body's bytes ahead, and how it stands then.
func wrongAt(t *testing.T, method string, most int, text, body string, e api.Errno, want view) {
	t.Helper()
	r := made(t, method, most)
	reads(t, r, text+line+"\r\n", len(text), body, e, want)
	stays(t, r, e, want)
	r = made(t, method, most)
	n, told, early := r.Read([]byte(text[:len(text)-1]))
	if n != len(text)-1 || string(told) != body || early != api.OK || r.Whole() {
		t.Errorf("Read(%.80q) ahead of what is wrong: %d, %.80q, %v, whole %v", text, n, told, early, r.Whole())
	}
	reads(t, r, text[len(text)-1:]+line+"\r\n", 1, "", e, want)
	stays(t, r, e, want)
}

// 24.1: New takes tokens, and heads of 16 to MaxHead bytes; a method that is wrong is told first.
func TestNew(t *testing.T) {
	tokens, others := []string{"GET", "HEAD", "x", "!#$%&'*+-.^_`|~9", strings.Repeat("M", 5000)}, []string{"", " ", "G T", "GET ", "G(", "\x80", "GET\r\n", "a:b", "\x00"}
	sizes, outside := []int{16, 17, 100, api.MaxHead - 1, api.MaxHead}, []int{15, 0, -1, -16, api.MaxHead + 1, 1 << 32, math.MinInt, math.MaxInt}
	for _, method := range slices.Concat(tokens, others) {
		for _, most := range slices.Concat(sizes, outside) {
			want := api.OK
			switch {
			case slices.Contains(others, method):
				want = api.ErrName
			case slices.Contains(outside, most):
				want = api.ErrArg
			default:
				r := made(t, method, most)
				stands(t, r, view{})
				reads(t, r, "", 0, "", api.OK, view{})
				continue
			}
			if r, e := upstream.New(method, most); r != nil || e != want {
				t.Errorf("New(%q, %d): %v, %v; want %v", method, most, r, e, want)
			}
		}
	}
	if upstream.MaxInterim != 8 {
		t.Errorf("MaxInterim is %d", upstream.MaxInterim)
	}
}

// R6: a nil reader reads nothing and is not whole; nor does one that New did not make.
func TestNil(t *testing.T) {
	for _, r := range []*upstream.Reader{nil, {}} {
		stands(t, r, view{})
		stays(t, r, api.ErrState, view{})
		if n, b, e := r.Read(nil); n != 0 || len(b) != 0 || e != api.ErrState {
			t.Errorf("Read(nil) of no reader: %d, %q, %v", n, b, e)
		}
	}
}

// measured are right responses whose end is told by the head or by the body.
func measured() []message {
	long := strings.Repeat("z", 5000)
	chunks := response(1, 200, "OK", "Transfer-Encoding", "chunked")
	head := message{"HEAD", line + "Content-Length: 3\r\n\r\n", response(1, 200, "OK", "Content-Length", "3"), none(true), ""}
	return []message{
		// without a body by its status, and by its method
		{"GET", "HTTP/1.1 204 \r\n\r\n", response(1, 204, ""), none(true), ""},
		{"GET", "HTTP/1.1 304 Not Modified\r\nContent-Length: 3\r\n\r\n", response(1, 304, "Not Modified", "Content-Length", "3"), none(true), ""},
		{"PUT", "HTTP/1.1 204 X\r\nContent-Length: 3\r\nTransfer-Encoding: x\r\n\r\n", response(1, 204, "X", "Content-Length", "3", "Transfer-Encoding", "x"), none(true), ""},
		{"GET", "HTTP/1.1 204 X\r\nConnection: a, Close\r\n\r\n", response(1, 204, "X", "Connection", "a, Close"), none(false), ""},
		{"GET", "HTTP/1.0 204 X\r\n\r\n", response(0, 204, "X"), none(false), ""},
		{"GET", "HTTP/1.0 204 X\r\nConnection: keep-alive\r\n\r\n", response(0, 204, "X", "Connection", "keep-alive"), none(true), ""},
		head,
		{"HEAD", coded, chunks, none(true), ""},
		{"HEAD", line + "\r\n", response(1, 200, "OK"), none(true), ""},
		{"HEAD", line + "Content-Length: 3, 4\r\n\r\n", response(1, 200, "OK", "Content-Length", "3, 4"), none(true), ""},
		{"HEAD", "HTTP/1.1 599 X\r\nConnection: close\r\n\r\n", response(1, 599, "X", "Connection", "close"), none(false), ""},
		// by a length, of 0 too
		{"GET", line + "Content-Length: 0\r\n\r\n", response(1, 200, "OK", "Content-Length", "0"), length(0, true), ""},
		{"GET", line + "Content-Length: 2\r\n\r\nab", response(1, 200, "OK", "Content-Length", "2"), length(2, true), "ab"},
		{"head", line + "Content-Length: 3\r\n\r\n\r\n\x00", response(1, 200, "OK", "Content-Length", "3"), length(3, true), "\r\n\x00"},
		{"GET", "HTTP/1.1 404 X\r\nContent-Length: 1\r\nConnection: close\r\n\r\n!", response(1, 404, "X", "Content-Length", "1", "Connection", "close"), length(1, false), "!"},
		{"GET", oldLine + "Content-Length: 1\r\n\r\n!", response(0, 200, "OK", "Content-Length", "1"), length(1, false), "!"},
		{"GET", oldLine + "Content-Length: 1\r\nConnection: Keep-Alive\r\n\r\n!", response(0, 200, "OK", "Content-Length", "1", "Connection", "Keep-Alive"), length(1, true), "!"},
		{"GET", line + "Content-Length: 5000\r\n\r\n" + long, response(1, 200, "OK", "Content-Length", "5000"), length(5000, true), long},
		// in chunks, without trailers and with them
		{"GET", coded + "0\r\n\r\n", chunks, inChunks(true), ""},
		{"GET", coded + "3;x\r\nabc\r\n0\r\n\r\n", chunks, inChunks(true), "abc"},
		{"GET", coded + "2\r\n\r\n\r\n1\r\na\r\n0\r\nA: b\r\nC:\r\n\r\n", chunks, inChunks(true), "\r\na"},
		{"GET", coded + "1388\r\n" + long + "\r\n0\r\n\r\n", chunks, inChunks(true), long},
		{"GET", "HTTP/1.1 500 X\r\nTransfer-Encoding: chunked\r\nConnection: close\r\n\r\n0\r\n\r\n", response(1, 500, "X", "Transfer-Encoding", "chunked", "Connection", "close"), inChunks(false), ""},
		// behind interim ones
		{"GET", interim + line + "Content-Length: 2\r\n\r\nab", response(1, 200, "OK", "Content-Length", "2"), length(2, true), "ab"},
		{"HEAD", "HTTP/1.0 100 Continue\r\nContent-Length: 9\r\nConnection: close\r\n\r\n" + head.text, head.head, head.framing, ""},
		{"GET", "HTTP/1.1 199 \r\nTransfer-Encoding: x\r\n\r\n" + interim + coded + "0\r\n\r\n", chunks, inChunks(true), ""},
	}
}

// unmeasured are right responses whose bodies end with their connection.
func unmeasured() []message {
	long := strings.Repeat("z", 5000)
	return []message{
		{"GET", line + "\r\n", response(1, 200, "OK"), toEnd(), ""},
		{"GET", line + "\r\nab", response(1, 200, "OK"), toEnd(), "ab"},
		{"GET", oldLine + "Connection: keep-alive\r\n\r\n" + interim, response(0, 200, "OK", "Connection", "keep-alive"), toEnd(), interim},
		{"GET", interim + "HTTP/1.1 502 X\r\n\r\n" + long, response(1, 502, "X"), toEnd(), long},
	}
}

// 24.1 to 24.3: responses whose end is told, and where they are whole; what stands behind them is not read.
func TestMeasured(t *testing.T) {
	for _, m := range measured() {
		last := len(m.text) - 1
		for _, behind := range []string{"", "x", "\r\n", line, m.text} {
			r := made(t, m.method, 200)
			reads(t, r, m.text+behind, len(m.text), m.body, api.OK, m.whole())
			stays(t, r, api.OK, m.whole())
			r = made(t, m.method, 200)
			n, told, e := r.Read([]byte(m.text[:last]))
			if n != last || e != api.OK || r.Whole() || r.Again() {
				t.Errorf("Read(%.80q): %d, %q, %v, whole %v", m.text[:last], n, told, e, r.Whole())
			}
			reads(t, r, m.text[last:]+behind, 1, m.body[len(told):], api.OK, m.whole())
			stays(t, r, api.OK, m.whole())
		}
	}
}

// 24.1 to 24.3: responses that end with their connection take all that comes, and are whole when it ends; they are never followed by another.
func TestUnmeasured(t *testing.T) {
	for _, m := range unmeasured() {
		r := made(t, m.method, 200)
		reads(t, r, m.text, len(m.text), m.body, api.OK, m.partly())
		reads(t, r, "", 0, "", api.OK, m.partly())
		reads(t, r, line+"\r\n", len(line)+2, line+"\r\n", api.OK, m.partly())
		ends(t, r, api.OK, m.ended())
		stays(t, r, api.OK, m.ended())
		r = made(t, m.method, 200)
		reads(t, r, m.text[:m.start()], m.start(), "", api.OK, m.partly())
		ends(t, r, api.OK, m.ended())
		stays(t, r, api.OK, m.ended())
	}
}

// 24.2: Head and Framing tell nothing ahead of the head's last byte, whatever interim ones were read, and the same from then on.
func TestHeadAndFraming(t *testing.T) {
	for _, m := range append(measured(), unmeasured()...) {
		r := made(t, m.method, 200)
		for i := range m.start() {
			stands(t, r, view{})
			if n, b, e := r.Read([]byte(m.text[i : i+1])); n != 1 || len(b) != 0 || e != api.OK {
				t.Fatalf("%.80q at %d: %d, %q, %v", m.text, i, n, b, e)
			}
		}
		for i := m.start(); i < len(m.text); i++ {
			stands(t, r, m.partly())
			r.Read([]byte(m.text[i : i+1]))
		}
		if m.framing.Kind == api.FrClose {
			stands(t, r, m.partly())
		} else {
			stands(t, r, m.whole())
		}
	}
}

// 24.1: as many interim heads as may be passed over, and one more, of which the end is wrong.
func TestInterim(t *testing.T) {
	m := message{"GET", line + "Content-Length: 2\r\n\r\nab", response(1, 200, "OK", "Content-Length", "2"), length(2, true), "ab"}
	for n := range upstream.MaxInterim + 1 {
		var b strings.Builder
		for i := range n {
			fmt.Fprintf(&b, "HTTP/1.%d %d \r\nA: b\r\n\r\n", i%2, []int{100, 102, 103, 199}[i%4])
		}
		ahead := b.String()
		r := made(t, "GET", 40)
		reads(t, r, ahead, len(ahead), "", api.OK, view{})
		reads(t, r, m.text+"c", len(m.text), "ab", api.OK, m.whole())
		reads(t, made(t, "GET", 40), ahead+m.text+"c", len(ahead+m.text), "ab", api.OK, m.whole())
		wrongAt(t, "GET", 40, ahead+"HTTP/1.1 101 X\r\n\r\n", "", api.ErrStart, view{})
		wrongAt(t, "GET", 40, ahead+"HTTP/2.0 101 X\r\n", "", api.ErrVersion, view{})
	}
	all := strings.Repeat(interim, upstream.MaxInterim)
	for _, status := range []int{100, 101, 102, 103, 199} {
		for _, method := range []string{"GET", "HEAD"} {
			wrongAt(t, method, 40, fmt.Sprintf("%sHTTP/1.1 %d X\r\n\r\n", all, status), "", api.ErrStart, view{})
		}
	}
	for _, fields := range []string{"Upgrade: a\r\n", "Content-Length: 3\r\n", "Transfer-Encoding: x\r\nContent-Length: 3\r\n"} {
		wrongAt(t, "GET", 100, "HTTP/1.1 101 X\r\n"+fields+"\r\n", "", api.ErrStart, view{})
		wrongAt(t, "HEAD", 100, "HTTP/1.0 101 X\r\n"+fields+"\r\n", "", api.ErrStart, view{})
	}
}

// 24.1: a head of as many bytes as may come, and of one more; the bound is that of each head by itself.
func TestHeadBound(t *testing.T) {
	final := "HTTP/1.1 204 \r\n\r\n"
	m := message{"GET", final, response(1, 204, ""), none(true), ""}
	for n := range upstream.MaxInterim + 1 {
		ahead := strings.Repeat("HTTP/1.1 100 \r\n\r\n", n)
		reads(t, made(t, "GET", len(final)), ahead+final+"x", len(ahead)+len(final), "", api.OK, m.whole())
		wrongAt(t, "GET", len(final), ahead+"HTTP/1.1 204 x\r\n\r\n"[:len(final)+1], "", api.ErrLarge, view{})
	}
	wrongAt(t, "GET", 16, final, "", api.ErrLarge, view{})
	wrongAt(t, "GET", 16, strings.Repeat("H", 17), "", api.ErrLarge, view{})
	value := strings.Repeat("b", 6000)
	text := line + strings.Repeat("A: "+value+"\r\n", 10) + "B: "
	text += strings.Repeat("c", api.MaxHead-len(text)-4)
	r := made(t, "HEAD", api.MaxHead)
	if n, b, e := r.Read([]byte(text + "\r\n\r\nx")); n != api.MaxHead || len(b) != 0 || e != api.OK || !r.Whole() {
		t.Errorf("a head of MaxHead bytes: %d, %q, %v, whole %v", n, b, e, r.Whole())
	}
	wrongAt(t, "HEAD", api.MaxHead, text+"c\r\n\r\n", "", api.ErrLarge, view{})
}

// 24.1: a head that is wrong, with its own error, in the first one and behind interim ones.
func TestHeadWrong(t *testing.T) {
	for text, e := range map[string]api.Errno{
		"\n": api.ErrBare, "\rx": api.ErrBare, "HTTP/1.1 200 OK\n": api.ErrBare, line + "A: b\n": api.ErrBare, line + "\rx": api.ErrBare,
		"\r\n": api.ErrStart, "HTTP/1.1 200\r\n": api.ErrStart, "HTTP/1.1 600 X\r\n": api.ErrStart, "HTTP/1.1 099 X\r\n": api.ErrStart, "GET / HTTP/1.1\r\n": api.ErrStart, "http/1.1 200 OK\r\n": api.ErrStart,
		"HTTP/2.0 200 OK\r\n": api.ErrVersion, "HTTP/1.2 200 OK\r\n": api.ErrVersion,
		line + " A: b\r\n": api.ErrFold, line + "A\r\n": api.ErrColon, line + "A : b\r\n": api.ErrSpace, line + "(: b\r\n": api.ErrName, line + "A: \x00\r\n": api.ErrValue,
		line + "A: " + strings.Repeat("b", api.MaxLine-2): api.ErrLarge, line + strings.Repeat("A: b\r\n", api.MaxFields+1): api.ErrLarge,
	} {
		for _, method := range []string{"GET", "HEAD"} {
			wrongAt(t, method, api.MaxHead, text, "", e, view{})
			wrongAt(t, method, api.MaxHead, interim+text, "", e, view{})
			wrongAt(t, method, api.MaxHead, strings.Repeat(interim, upstream.MaxInterim)+text, "", e, view{})
		}
	}
}

// 24.1, 24.2: a framing that is refused, at its head's last byte: the head was read, a framing there is not.
func TestFramingWrong(t *testing.T) {
	for _, c := range []struct {
		head api.Head
		e    api.Errno
	}{
		{response(1, 200, "OK", "Content-Length", "5", "Transfer-Encoding", "chunked"), api.ErrBoth},
		{response(1, 200, "OK", "Transfer-Encoding", "gzip, chunked"), api.ErrCoding},
		{response(1, 404, "X", "Transfer-Encoding", ""), api.ErrCoding},
		{response(0, 200, "OK", "Transfer-Encoding", "chunked"), api.ErrCoding},
		{response(1, 200, "OK", "Content-Length", "5, 6"), api.ErrLengths},
		{response(1, 500, "X", "Content-Length", "x"), api.ErrLengths},
		{response(1, 200, "OK", "Content-Length", "9007199254740993"), api.ErrLengths},
	} {
		text := fmt.Sprintf("HTTP/1.%d %d %s\r\n", c.head.Minor, c.head.Status, c.head.Reason)
		for _, f := range c.head.Fields {
			text += f.Name + ": " + f.Value + "\r\n"
		}
		text += "\r\n"
		want := view{head: c.head, known: true}
		wrongAt(t, "GET", 200, text, "", c.e, want)
		wrongAt(t, "GET", 200, interim+text, "", c.e, want)
		m := message{"HEAD", text, c.head, none(c.head.Minor == 1), ""} // of HEAD it is no matter
		reads(t, made(t, "HEAD", 200), text, len(text), "", api.OK, m.whole())
	}
}

// 24.1: a body that is wrong, at its byte; the bytes ahead of it are told, and the head stays.
func TestBodyWrong(t *testing.T) {
	m := message{"GET", coded, response(1, 200, "OK", "Transfer-Encoding", "chunked"), inChunks(true), ""}
	for _, c := range []struct {
		text, body string
		e          api.Errno
	}{
		{"g\r\n", "", api.ErrChunk}, {"\n", "", api.ErrChunk}, {"3\r\nabcd", "abc", api.ErrChunk}, {"1\r\na\r\n0\r\nx\r\n", "a", api.ErrChunk}, {"1\r\na\r\n1\r\nb\r\n-\r\n", "ab", api.ErrChunk}, {"20000000000001\r\n", "", api.ErrChunk},
		{"1\r\na\r\n20000000000000\r\n", "a", api.ErrLong},
	} {
		wrongAt(t, "GET", 200, coded+c.text, c.body, c.e, m.partly())
		wrongAt(t, "GET", 200, interim+coded+c.text, c.body, c.e, m.partly())
	}
}

// 24.1: a body may be of any length.
func TestAnyLength(t *testing.T) {
	big := strings.Repeat("b", api.MaxBytes)
	chunks := message{"GET", coded, response(1, 200, "OK", "Transfer-Encoding", "chunked"), inChunks(true), ""}
	for _, m := range []message{
		{"GET", line + "Content-Length: 9007199254740992\r\n\r\n", response(1, 200, "OK", "Content-Length", "9007199254740992"), length(1<<53, true), ""},
		{"GET", line + "\r\n", response(1, 200, "OK"), toEnd(), ""},
		{"GET", coded + "20000000000000\r\n", chunks.head, chunks.framing, ""},
	} {
		r := made(t, "GET", 200)
		reads(t, r, m.text, len(m.text), "", api.OK, m.partly())
		for range 3 {
			reads(t, r, big, len(big), big, api.OK, m.partly())
		}
	}
	r := made(t, "GET", 200)
	text := line + "Content-Length: 3145728\r\n\r\n"
	m := message{"GET", text, response(1, 200, "OK", "Content-Length", "3145728"), length(3<<20, true), ""}
	reads(t, r, text+big, len(text)+len(big), big, api.OK, m.partly())
	reads(t, r, big, len(big), big, api.OK, m.partly())
	reads(t, r, big+"x", len(big), big, api.OK, m.whole())
}

// 24.3, 24.4: the end behind each beginning of a response: it is never whole but where its body ends so.
func TestEnd(t *testing.T) {
	for _, m := range append(measured(), unmeasured()...) {
		start := m.start()
		for cut := 0; cut < len(m.text); cut += 1 + cut/100 {
			r := made(t, m.method, 200)
			if cut > 0 {
				r.Read([]byte(m.text[:cut]))
			}
			switch {
			case cut < start: // ahead of anything, in an interim head, behind one, in the head
				ends(t, r, api.ErrCut, view{})
				stays(t, r, api.ErrCut, view{})
			case m.framing.Kind == api.FrClose:
				ends(t, r, api.OK, m.ended())
				stays(t, r, api.OK, m.ended())
			default:
				ends(t, r, api.ErrCut, m.partly())
				stays(t, r, api.ErrCut, m.partly())
				reads(t, r, m.text[cut:], 0, "", api.ErrCut, m.partly()) // the rest comes too late
			}
		}
		r := made(t, m.method, 200)
		r.Read([]byte(m.text))
		ends(t, r, api.OK, m.ended())
		stays(t, r, api.OK, m.ended())
	}
}

// 24.3: Again needs a whole response, a framing that keeps, and a connection that did not end.
func TestAgain(t *testing.T) {
	for _, m := range measured() {
		r := made(t, m.method, 200)
		if r.Again() {
			t.Error("Again of a reader that has read nothing")
		}
		r.Read([]byte(m.text[:len(m.text)-1]))
		if r.Again() {
			t.Errorf("%.80q: Again ahead of its end", m.text)
		}
		r.Read([]byte(m.text[len(m.text)-1:]))
		if r.Again() != m.framing.Keep {
			t.Errorf("%.80q: Again is %v", m.text, r.Again())
		}
		if r.End(); r.Again() || !r.Whole() {
			t.Errorf("%.80q behind the end: Again is %v, Whole %v", m.text, r.Again(), r.Whole())
		}
	}
}

// The chapter's example.
func TestExample(t *testing.T) {
	r := made(t, "GET", 100)
	text := interim + line + "Content-Length: 2\r\n\r\nab"
	reads(t, r, text, len(text), "ab", api.OK, view{response(1, 200, "OK", "Content-Length", "2"), true, length(2, true), true, true})
}

// spoil writes a byte all over a list, its spare room too.
func spoil(l []byte, with byte) {
	for i := range l[:cap(l)] {
		l[:cap(l)][i] = with
	}
}

// room is where memory lies.
type room struct{ from, to uintptr }

func bytesRoom(b []byte) room {
	at := uintptr(unsafe.Pointer(unsafe.SliceData(b)))
	return room{at, at + uintptr(cap(b))}
}

func textRoom(s string) room {
	at := uintptr(unsafe.Pointer(unsafe.StringData(s)))
	return room{at, at + uintptr(len(s))}
}

// headRooms are where a head's list and texts lie.
func headRooms(h api.Head) []room {
	fields := uintptr(unsafe.Pointer(unsafe.SliceData(h.Fields)))
	l := []room{{fields, fields + uintptr(cap(h.Fields))*unsafe.Sizeof(api.Field{})}, textRoom(h.Reason)}
	for _, f := range h.Fields {
		l = append(l, textRoom(f.Name), textRoom(f.Value))
	}
	return l
}

// apart tells whether no two rooms have a byte in common.
func apart(l []room) bool {
	for i, a := range l {
		for _, b := range l[:i] {
			if a.from < b.to && b.from < a.to && a.from < a.to && b.from < b.to {
				return false
			}
		}
	}
	return true
}

// R3: what is read is neither changed nor kept; what is told shares nothing with it, with what is kept, nor with another answer.
func TestMemory(t *testing.T) {
	for _, m := range append(measured(), unmeasured()...) {
		for _, size := range []int{len(m.text), 1, 7, 64} {
			r := made(t, m.method, 200)
			var body []byte
			var answers [][]byte
			for at := 0; at < len(m.text); at += size {
				b := append([]byte(m.text[at:min(at+size, len(m.text))]), "spare room"...)
				was := slices.Clone(b)
				_, told, _ := r.Read(b[:len(b)-len("spare room")])
				if !slices.Equal(b, was) {
					t.Fatalf("Read changed %q to %q", was, b)
				}
				if !apart([]room{bytesRoom(b), bytesRoom(told)}) {
					t.Fatalf("%q shares room with what was read", told)
				}
				body = append(body, told...)
				spoil(b, '!')
				spoil(told, byte(len(answers)))
				answers = append(answers, told)
			}
			for i, l := range answers { // each one is as it was left
				if slices.ContainsFunc(l[:cap(l)], func(c byte) bool { return c != byte(i) }) {
					t.Errorf("%.80q: two answers share room", m.text)
				}
			}
			if string(body) != m.body {
				t.Errorf("%.80q: the body %.80q", m.text, body)
			}
			r.End()
			stands(t, r, m.ended())
			h, _ := r.Head()
			again, _ := r.Head()
			if !apart(append(headRooms(h), headRooms(again)...)) {
				t.Errorf("%.80q: two heads share room", m.text)
			}
			for i := range h.Fields[:cap(h.Fields)] {
				h.Fields[:cap(h.Fields)][i] = api.Field{Name: "!", Value: "!"}
			}
			stands(t, r, m.ended())
			if len(again.Fields) > 0 && !slices.Equal(again.Fields, m.head.Fields) {
				t.Errorf("%.80q: a head was changed by what was done to another one", m.text)
			}
		}
	}
}

// R3: the method is not kept either: bytes under it that change are nothing to the reader.
func TestMethodMemory(t *testing.T) {
	for _, methods := range [][2]string{{"HEAD", "XXXX"}, {"XXXX", "HEAD"}} {
		b := []byte(methods[0])
		r := made(t, unsafe.String(&b[0], len(b)), 100)
		copy(b, methods[1])
		text := line + "Content-Length: 1\r\n\r\n"
		if r.Read([]byte(text)); r.Whole() != (methods[0] == "HEAD") {
			t.Errorf("the method %q became %q", methods[0], methods[1])
		}
	}
}
