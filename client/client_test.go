package client_test

import (
	"fmt"
	"math"
	"reflect"
	"runtime"
	"slices"
	"strings"
	"testing"
	"unsafe"

	"headrace/api"
	"headrace/client"
)

const (
	line   = "PUT /a HTTP/1.1\r\n"
	coded  = line + "Transfer-Encoding: chunked\r\n\r\n"
	simple = "GET / HTTP/1.1\r\n\r\n"
)

// view is all that a connection tells without a change.
type view struct {
	head        api.Head
	body        string
	whole       bool
	wrong       int
	begun, shut bool
}

var (
	fresh = view{}            // it reads a head of which nothing was read
	begun = view{begun: true} // it reads a head of which something was read, or a body
	shut  = view{shut: true}
)

// waiting is a connection with a whole request.
func waiting(h api.Head, body string) view { return view{head: h, body: body, whole: true} }

// wrong is a connection that is shut since something was wrong.
func wrong(status int) view { return view{wrong: status, shut: true} }

// request is a head of Minor 1, with fields by their names and values.
func request(method, target string, parts ...string) api.Head {
	return api.Head{Request: true, Method: method, Target: target, Minor: 1, Fields: list(parts...)}
}

// list are fields by their names and values.
func list(parts ...string) []api.Field {
	var l []api.Field
	for i := 0; i+1 < len(parts); i += 2 {
		l = append(l, api.Field{Name: parts[i], Value: parts[i+1]})
	}
	return l
}

// seen is what a connection tells.
func seen(c *client.Client) view {
	h, b, whole := c.Request()
	if len(h.Fields) == 0 {
		h.Fields = nil
	}
	return view{h, string(b), whole, c.Wrong(), c.Begun(), c.Shut()}
}

// made is a new connection.
func made(t *testing.T, head, body int) *client.Client {
	t.Helper()
	c, e := client.New(head, body)
	if c == nil || e != api.OK {
		t.Fatalf("New(%d, %d): %v, %v", head, body, c, e)
	}
	return c
}

// stands tells how a connection stands; to ask changes nothing.
func stands(t *testing.T, c *client.Client, want view) {
	t.Helper()
	for range 2 {
		if got := seen(c); !reflect.DeepEqual(got, want) {
			t.Errorf("it stands at %.300q; want %.300q", fmt.Sprintf("%+v", got), fmt.Sprintf("%+v", want))
		}
	}
}

func reads(t *testing.T, c *client.Client, b string, n int, want view) {
	t.Helper()
	if got, whole := c.Read([]byte(b)); got != n || whole != want.whole {
		t.Errorf("Read(%.80q): %d, %v; want %d, %v", b, got, whole, n, want.whole)
	}
	stands(t, c, want)
}

func ends(t *testing.T, c *client.Client, closed bool, want view) {
	t.Helper()
	if got := c.End(); got != closed {
		t.Errorf("End: %v; want %v", got, closed)
	}
	stands(t, c, want)
}

func answered(t *testing.T, c *client.Client, keep bool, e api.Errno, want view) {
	t.Helper()
	if got := c.Answered(keep); got != e {
		t.Errorf("Answered(%v): %v; want %v", keep, got, e)
	}
	stands(t, c, want)
}

// readsNothing tells that a connection that waits or is shut reads nothing, and that no call but Answered changes that.
func readsNothing(t *testing.T, c *client.Client, want view) {
	t.Helper()
	for range 2 {
		for _, b := range []string{"", "x", "\r\n", simple, line, strings.Repeat("y", 70000)} {
			reads(t, c, b, 0, want)
		}
		ends(t, c, want.shut, want)
		if want.shut {
			answered(t, c, true, api.ErrState, want)
			answered(t, c, false, api.ErrState, want)
		}
	}
}

// wrongAt tells that something is wrong with a request at its text's last byte, not ahead of it, and that right ones behind it are not read (23.5).
func wrongAt(t *testing.T, head, body int, text string, status int) {
	t.Helper()
	c := made(t, head, body)
	reads(t, c, text+simple, len(text), wrong(status))
	readsNothing(t, c, wrong(status))
	c = made(t, head, body)
	ahead, last := text[:len(text)-1], text[len(text)-1:]
	if ahead != "" {
		reads(t, c, ahead, len(ahead), begun)
		reads(t, c, "", 0, begun)
	}
	reads(t, c, last+simple, 1, wrong(status))
	readsNothing(t, c, wrong(status))
	if head < len(simple) {
		return
	}
	c = made(t, head, body) // and behind a right one
	reads(t, c, simple+text, len(simple), waiting(request("GET", "/"), ""))
	answered(t, c, true, api.OK, fresh)
	reads(t, c, text+simple, len(text), wrong(status))
	readsNothing(t, c, wrong(status))
}

// 23.1: New takes heads of 16 to MaxHead bytes, and bodies of 0 to MaxBytes.
func TestNew(t *testing.T) {
	heads, bodies := []int{16, 17, 100, api.MaxHead - 1, api.MaxHead}, []int{0, 1, 100, api.MaxBytes - 1, api.MaxBytes}
	noHeads, noBodies := []int{15, 0, -1, -16, api.MaxHead + 1, 1 << 32, math.MinInt, math.MaxInt}, []int{-1, -2, api.MaxBytes + 1, 1 << 32, math.MinInt, math.MaxInt}
	for _, head := range slices.Concat(heads, noHeads) {
		for _, body := range slices.Concat(bodies, noBodies) {
			if slices.Contains(heads, head) && slices.Contains(bodies, body) {
				c := made(t, head, body)
				stands(t, c, fresh)
				reads(t, c, "", 0, fresh)
				continue
			}
			if c, e := client.New(head, body); c != nil || e != api.ErrArg {
				t.Errorf("New(%d, %d): %v, %v", head, body, c, e)
			}
		}
	}
}

// R6: a nil connection is shut; so is one that New did not make.
func TestNil(t *testing.T) {
	for _, c := range []*client.Client{nil, {}} {
		stands(t, c, shut)
		readsNothing(t, c, shut)
		if n, whole := c.Read(nil); n != 0 || whole {
			t.Errorf("Read(nil) of no connection: %d, %v", n, whole)
		}
	}
}

// message is a request's text, and what it says.
type message struct {
	text string
	head api.Head
	body string
}

// messages are right requests of each kind.
func messages() []message {
	long := strings.Repeat("z", 5000)
	old := api.Head{Request: true, Method: "GET", Target: "*"}
	oldPut := api.Head{Request: true, Method: "PUT", Target: "/", Fields: list("Content-Length", "2")}
	inChunks := request("PUT", "/a", "Transfer-Encoding", "chunked")
	return []message{
		// without a body
		{simple, request("GET", "/"), ""},
		{"GET * HTTP/1.0\r\n\r\n", old, ""},
		{line + "Host: a\r\nX-A: \r\nx-a:b\r\n\r\n", request("PUT", "/a", "Host", "a", "X-A", "", "x-a", "b"), ""},
		{line + "Connection: close\r\nExpect: 100-continue\r\n\r\n", request("PUT", "/a", "Connection", "close", "Expect", "100-continue"), ""},
		// by a length, of 0 too
		{line + "Content-Length: 0\r\n\r\n", request("PUT", "/a", "Content-Length", "0"), ""},
		{line + "Content-Length: 00, 0\r\n\r\n", request("PUT", "/a", "Content-Length", "00, 0"), ""},
		{line + "Content-Length: 1\r\n\r\n\n", request("PUT", "/a", "Content-Length", "1"), "\n"},
		{line + "Content-Length: 3\r\ncontent-length: 3\r\n\r\nabc", request("PUT", "/a", "Content-Length", "3", "content-length", "3"), "abc"},
		{"PUT / HTTP/1.0\r\nContent-Length: 2\r\n\r\n\x00\xff", oldPut, "\x00\xff"},
		{line + "Content-Length: 18\r\n\r\n" + simple, request("PUT", "/a", "Content-Length", "18"), simple},
		{line + "Content-Length: 5000\r\n\r\n" + long, request("PUT", "/a", "Content-Length", "5000"), long},
		// in chunks, without trailers and with them
		{coded + "0\r\n\r\n", inChunks, ""},
		{coded + "3;x\r\nabc\r\n0\r\n\r\n", inChunks, "abc"},
		{coded + "2\r\n\r\n\r\n0A;\r\n0123456789\r\n0;y\r\n\r\n", inChunks, "\r\n0123456789"},
		{coded + "1\r\na\r\n0\r\nA: b\r\nContent-Length: 7\r\n\r\n", inChunks, "a"},
		{coded + "0\r\nA:\r\n\r\n", inChunks, ""},
		{coded + "1388\r\n" + long + "\r\n1\r\n!\r\n0\r\n\r\n", inChunks, long + "!"},
	}
}

// 23.1, 23.2: requests of each kind, and where they are whole; what stands behind them is not read.
func TestRequests(t *testing.T) {
	for _, m := range messages() {
		want := waiting(m.head, m.body)
		for _, behind := range []string{"", "x", "\r\n", "\n", simple, m.text} {
			c := made(t, 100, api.MaxBytes)
			reads(t, c, m.text+behind, len(m.text), want)
			readsNothing(t, c, want)
			answered(t, c, true, api.OK, fresh)
			reads(t, c, m.text[:len(m.text)-1], len(m.text)-1, begun)
			reads(t, c, m.text[len(m.text)-1:]+behind, 1, want)
			readsNothing(t, c, want)
			answered(t, c, false, api.OK, shut)
			readsNothing(t, c, shut)
		}
	}
}

// 23.1, 23.2: a body of as many bytes as may come, and of one more, by its length and in chunks.
func TestBodyBound(t *testing.T) {
	for _, most := range []int{0, 1, 2, 15, 16, 17, 255, 5000, api.MaxBytes - 1, api.MaxBytes} {
		text := strings.Repeat("b", most)
		byLength := func(n int) string { return fmt.Sprintf("%sContent-Length: %d\r\n\r\n", line, n) }
		fits := byLength(most)
		want := waiting(request("PUT", "/a", "Content-Length", fmt.Sprint(most)), text)
		reads(t, made(t, 100, most), fits+text+"b", len(fits)+most, want)
		reads(t, made(t, 100, api.MaxBytes), fits+text+"b", len(fits)+most, want)
		wrongAt(t, 100, most, byLength(most+1), 413) // ahead of any byte of it
		wrongAt(t, 100, most, byLength(1<<53), 413)
		wrongAt(t, 100, most, byLength(1<<53+1), 400) // no length any more
		inChunks := request("PUT", "/a", "Transfer-Encoding", "chunked")
		chunks := coded
		if most > 1 {
			chunks += fmt.Sprintf("1\r\nb\r\n%x\r\n%s\r\n", most-1, text[1:])
		} else if most > 0 {
			chunks += "1\r\nb\r\n"
		}
		reads(t, made(t, 100, most), chunks+"0\r\n\r\nb", len(chunks)+5, waiting(inChunks, text))
		wrongAt(t, 100, most, chunks+"1\r\n", 413)
		wrongAt(t, 100, most, fmt.Sprintf("%s%x;x\r\n", coded, most+1), 413)
		wrongAt(t, 100, most, coded+"20000000000000\r\n", 413)
		wrongAt(t, 100, most, coded+"20000000000001\r\n", 400) // no size any more
	}
}

// 23.1: a head of as many bytes as may come, and of one more; empty lines ahead of it count.
func TestHeadBound(t *testing.T) {
	least := request("A", "B")
	for _, c := range []message{{"A B HTTP/1.1\r\n\r\n", least, ""}, {simple, request("GET", "/"), ""}, {"\r\n\r\n" + simple, request("GET", "/"), ""}} {
		n := len(c.text)
		reads(t, made(t, n, 0), c.text+"x", n, waiting(c.head, ""))
		for most := 16; most < n; most++ {
			wrongAt(t, most, 0, c.text[:most+1], 431)
		}
	}
	wrongAt(t, 16, 0, "GET / HTTP/1.1\r\nA", 431)
	wrongAt(t, 16, 0, strings.Repeat("G", 17), 431)
	fields := strings.Repeat("A: "+strings.Repeat("b", 6547)+"\r\n", 10) // of the greatest head
	text := line + fields[:api.MaxHead-len(line)-4] + "\r\n\r\n"
	c := made(t, api.MaxHead, 0)
	if n, whole := c.Read([]byte(text)); n != api.MaxHead || !whole {
		t.Errorf("a head of MaxHead bytes: %d, %v", n, whole)
	}
	text = line + fields[:api.MaxHead-len(line)-3] + "\r\n\r\n"
	wrongAt(t, api.MaxHead, 0, text, 431)
}

// 23.2: a head that is wrong in each of its lines, told at the byte at which it is.
func TestHeadWrong(t *testing.T) {
	for _, text := range []string{
		// the first line
		"GET / HTTP/1.1\n", "GET / HTTP/1.1\rx", "\n", "\rG", "GET\r\n", "GET /\r\n", "GET  / HTTP/1.1\r\n", "GET / HTTP/1.1 \r\n", " GET / HTTP/1.1\r\n", "G(T / HTTP/1.1\r\n", "GET /\x80 HTTP/1.1\r\n", "GET / http/1.1\r\n",
		"GET / HTTP/2.0\r\n", "GET / HTTP/1.2\r\n", "GET / HTTP/0.9\r\n", "HTTP/1.1 200 OK\r\n", "\x00\r\n",
		// field lines
		line + "A: b\n", line + "A: b\rc", line + " A: b\r\n", line + "\tA: b\r\n", line + "A\r\n", line + "A : b\r\n", line + "A\t: b\r\n", line + "(: b\r\n", line + ": b\r\n", line + "A: \x00\r\n", line + "A: b\x7fc\r\n",
		line + "A: b\r\nB\r\n", line + "A: b\r\n c\r\n", line + "A: b\r\nB: c\r\n\rx", line + "A: b\r\n\n",
	} {
		wrongAt(t, api.MaxHead, 0, text, 400)
		wrongAt(t, 100, api.MaxBytes, text, 400)
		wrongAt(t, api.MaxHead, 0, "\r\n"+text, 400)
	}
	many := line + strings.Repeat("A: b\r\n", api.MaxFields)
	reads(t, made(t, api.MaxHead, 0), many, len(many), begun)
	wrongAt(t, api.MaxHead, 0, many+"A: b\r\n", 431)
	wrongAt(t, api.MaxHead, 0, many+"A : b\r\n", 400)
	wrongAt(t, api.MaxHead, 0, "GET /"+strings.Repeat("a", api.MaxLine-4), 431)
	wrongAt(t, api.MaxHead, 0, line+"A: "+strings.Repeat("b", api.MaxLine-2), 431)
	wrongAt(t, api.MaxHead, 0, line+"A: "+strings.Repeat("b", api.MaxLine-3)+"\n", 400)
}

// 23.1, 23.3: up to four empty lines ahead of a head are passed over, ahead of each request anew; they are something.
func TestEmptyLines(t *testing.T) {
	c := made(t, 100, 0)
	for n := range 5 {
		empty := strings.Repeat("\r\n", n)
		reads(t, c, empty+simple+empty, len(empty+simple), waiting(request("GET", "/"), ""))
		answered(t, c, true, api.OK, fresh)
	}
	wrongAt(t, 100, 0, strings.Repeat("\r\n", 5), 400)
	for _, came := range []string{"\r", "\r\n", "\r\n\r", "\r\n\r\n\r\n\r\n"} {
		c := made(t, 100, 0)
		reads(t, c, came, len(came), begun)
		ends(t, c, true, wrong(400))
		readsNothing(t, c, wrong(400))
	}
}

// 23.2: a framing that is refused, at its head's last byte, whatever else would be wrong behind it.
func TestFramingWrong(t *testing.T) {
	for _, fields := range []string{
		"Content-Length: 5\r\nTransfer-Encoding: chunked\r\n", "Content-Length: 9999999\r\nTransfer-Encoding: chunked\r\n", "Transfer-Encoding: x\r\n", "Transfer-Encoding: gzip, chunked\r\n", "Transfer-Encoding: chunked\r\nTransfer-Encoding: chunked\r\n", "Transfer-Encoding: \r\n",
		"Content-Length: 5, 6\r\n", "Content-Length: 5\r\nContent-Length: 6\r\n", "Content-Length: \r\n", "Content-Length: -1\r\n", "Content-Length: +1\r\n", "Content-Length: 0x1\r\n", "Content-Length: 99999999999999999999\r\n", "Content-Length: 9999999, x\r\n",
	} {
		wrongAt(t, api.MaxHead, 5, line+fields+"\r\n", 400)
		wrongAt(t, 100, 0, line+fields+"\r\n", 400)
	}
	wrongAt(t, 100, 5, "PUT / HTTP/1.0\r\nTransfer-Encoding: chunked\r\n\r\n", 400)
}

// 23.2: chunks that are wrong, and those that say too much, at the byte at which they are.
func TestBodyWrong(t *testing.T) {
	for _, c := range []struct {
		text   string
		status int
	}{
		{"g\r\n", 400}, {"\r\n", 400}, {"\n", 400}, {"1 \r\n", 400}, {";x\r\n", 400}, {"-1\r\n", 400}, {"1\rx", 400}, {"1;\x00\r\n", 400},
		{"3\r\nabcd", 400}, {"3\r\nabc\n", 400}, {"3\r\nabc\r\r", 400}, {"0\r\nx\r\n", 400}, {"0\r\n A: b\r\n", 400}, {"0\r\nA: b\r\n\n", 400}, {"5\r\nabcde\r\n0\r\nA : b\r\n", 400},
		{"0\r\n" + strings.Repeat("A: b\r\n", api.MaxFields+1), 400}, {strings.Repeat("0", api.MaxLine+1), 400},
		{"6\r\n", 413}, {"9\r\n", 413}, {"2\r\nab\r\n4\r\n", 413}, {"5\r\nabcde\r\n1\r\n", 413}, {"6;x\r\n", 413}, {"ffffffff\r\n", 413},
	} {
		wrongAt(t, api.MaxHead, 5, coded+c.text, c.status)
		wrongAt(t, 100, 5, coded+c.text, c.status)
	}
	wrongAt(t, 100, 5, line+"Content-Length: 6\r\n\r\n", 413)
	wrongAt(t, 100, 0, line+"Content-Length: 1\r\n\r\n", 413)
}

// 23.3: the end ahead of anything, behind any beginning of a request, while it waits, and where it is shut.
func TestEnd(t *testing.T) {
	c := made(t, 100, 100)
	ends(t, c, true, shut)
	readsNothing(t, c, shut)
	c = made(t, 100, 100)
	reads(t, c, "", 0, fresh)
	ends(t, c, true, shut)
	for _, m := range messages() {
		for cut := 1; cut < len(m.text); cut += 1 + cut/100 {
			c := made(t, 100, api.MaxBytes)
			reads(t, c, m.text[:cut], cut, begun)
			ends(t, c, true, wrong(400))
			readsNothing(t, c, wrong(400))
			reads(t, c, m.text[cut:], 0, wrong(400)) // the rest comes too late
		}
		c := made(t, 100, api.MaxBytes)
		want := waiting(m.head, m.body)
		reads(t, c, m.text, len(m.text), want)
		ends(t, c, false, want)
		answered(t, c, true, api.OK, fresh) // an end while it waits is nothing
		reads(t, c, m.text, len(m.text), want)
		answered(t, c, true, api.OK, fresh)
		ends(t, c, true, shut) // behind an answer nothing of the next one was read
		readsNothing(t, c, shut)
	}
	for text, status := range map[string]int{"\n": 400, strings.Repeat("x", 101): 431, line + "Content-Length: 101\r\n\r\n": 413} {
		c := made(t, 100, 100)
		reads(t, c, text, len(text), wrong(status))
		ends(t, c, true, wrong(status)) // what was wrong stays
	}
}

// 23.3, R4: Answered where it does not wait is ErrState, and changes nothing.
func TestAnswered(t *testing.T) {
	for _, keep := range []bool{true, false} {
		for _, m := range messages() {
			c := made(t, 100, api.MaxBytes)
			answered(t, c, keep, api.ErrState, fresh)
			half := len(m.text) / 2
			reads(t, c, m.text[:1], 1, begun)
			answered(t, c, keep, api.ErrState, begun)
			reads(t, c, m.text[1:half], half-1, begun)
			answered(t, c, keep, api.ErrState, begun)
			reads(t, c, m.text[half:], len(m.text)-half, waiting(m.head, m.body))
			next := shut
			if keep {
				next = fresh
			}
			answered(t, c, keep, api.OK, next)
			answered(t, c, keep, api.ErrState, next) // it is answered once
			answered(t, c, !keep, api.ErrState, next)
		}
		answered(t, nil, keep, api.ErrState, shut)
	}
}

// 23.1, 23.4: behind an answer both bounds hold as before, and nothing of the request ahead counts.
func TestBoundsAgain(t *testing.T) {
	text := line + "Content-Length: 5\r\n\r\nabcde"
	head := len(text) - 5
	c := made(t, head, 5)
	for range 5 {
		reads(t, c, text, len(text), waiting(request("PUT", "/a", "Content-Length", "5"), "abcde"))
		answered(t, c, true, api.OK, fresh)
	}
	reads(t, c, line+"Content-Length: 6\r\n\r\n", head, wrong(413))
	c = made(t, head, 5)
	reads(t, c, text, len(text), waiting(request("PUT", "/a", "Content-Length", "5"), "abcde"))
	answered(t, c, true, api.OK, fresh)
	reads(t, c, line+"Content-Length:  5\r\n\r\n", head+1, wrong(431))
}

// The chapter's example.
func TestExample(t *testing.T) {
	c := made(t, 100, 0)
	text := simple + simple
	want := waiting(request("GET", "/"), "")
	reads(t, c, text, len(simple), want)
	answered(t, c, true, api.OK, fresh)
	reads(t, c, text[len(simple):], len(simple), want)
}

// spoil writes over a list, its spare room too.
func spoil(l []byte) {
	for i := range l[:cap(l)] {
		l[:cap(l)][i] = '!'
	}
}

// room is where memory lies.
type room struct{ from, to uintptr }

// rooms are where an answer's lists and texts lie.
func rooms(h api.Head, b []byte) []room {
	text := func(s string) room {
		at := uintptr(unsafe.Pointer(unsafe.StringData(s)))
		return room{at, at + uintptr(len(s))}
	}
	at := uintptr(unsafe.Pointer(unsafe.SliceData(b)))
	fields := uintptr(unsafe.Pointer(unsafe.SliceData(h.Fields)))
	l := []room{{at, at + uintptr(cap(b))}, {fields, fields + uintptr(cap(h.Fields))*unsafe.Sizeof(api.Field{})}, text(h.Method), text(h.Target)}
	for _, f := range h.Fields {
		l = append(l, text(f.Name), text(f.Value))
	}
	return l
}

// apart tells whether no two rooms have a byte in common.
func apart(l []room) bool {
	for i, a := range l {
		for _, b := range l[:i] {
			if a.from < b.to && b.from < a.to && a.from < a.to && b.from < b.to {
				return false
			}
		}
	}
	return true
}

// R3: what is read is neither changed nor kept; what is told shares nothing with it, with what is kept, nor with another answer.
func TestMemory(t *testing.T) {
	for _, m := range messages() {
		c := made(t, 100, api.MaxBytes)
		for i := range 3 {
			size := []int{len(m.text), 1, 7}[i]
			for at := 0; at < len(m.text); at += size {
				b := append([]byte(m.text[at:min(at+size, len(m.text))]), "spare room"...)
				n := len(b) - len("spare room")
				was := slices.Clone(b)
				c.Read(b[:n])
				if !slices.Equal(b, was) {
					t.Fatalf("Read changed %q to %q", was, b)
				}
				spoil(b)
			}
			want := waiting(m.head, m.body)
			stands(t, c, want)
			h, b, _ := c.Request()
			again, other, _ := c.Request()
			if !apart(slices.Concat(rooms(h, b), rooms(again, other))) {
				t.Errorf("%.80q: two answers share room", m.text)
			}
			spoil(b)
			for i := range h.Fields[:cap(h.Fields)] {
				h.Fields[:cap(h.Fields)][i] = api.Field{Name: "!", Value: "!"}
			}
			stands(t, c, want)
			if string(other) != m.body || len(again.Fields) != len(m.head.Fields) || len(again.Fields) > 0 && !slices.Equal(again.Fields, m.head.Fields) {
				t.Errorf("%.80q: an answer was changed by what was done to another one", m.text)
			}
			answered(t, c, true, api.OK, fresh)
			spoil(other) // and what was told stays nobody's behind the answer
			stands(t, c, fresh)
		}
	}
}

// 23.2: what was read of a request that is wrong is let go; so is one that is answered.
func TestLetGo(t *testing.T) {
	inUse := func() uint64 {
		var m runtime.MemStats
		runtime.GC()
		runtime.ReadMemStats(&m)
		return m.HeapAlloc
	}
	ahead := fmt.Appendf(nil, "%s%x\r\n%s\r\n", coded, api.MaxBytes, strings.Repeat("b", api.MaxBytes))
	before := inUse()
	var held []*client.Client
	for i := range 32 {
		c := made(t, 100, api.MaxBytes)
		c.Read(ahead)
		switch i % 4 {
		case 0:
			c.Read([]byte("x\r\n"))
		case 1:
			c.End()
		default:
			c.Read([]byte("0\r\n\r\n"))
			c.Answered(i%4 == 2)
		}
		held = append(held, c)
	}
	if after := inUse(); after > before+4*api.MaxBytes {
		t.Errorf("%d bytes are in use behind %d requests; ahead of them %d", after, len(held), before)
	}
	for i, c := range held {
		stands(t, c, []view{wrong(400), wrong(400), fresh, shut}[i%4])
	}
}
