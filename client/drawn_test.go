package client_test

import (
	"fmt"
	"math/rand"
	"reflect"
	"strings"
	"testing"

	"headrace/api"
	"headrace/body"
	"headrace/client"
	"headrace/framing"
	"headrace/head"
)

// oneOf draws one of a list.
func oneOf[T any](r *rand.Rand, l ...T) T { return l[r.Intn(len(l))] }

// drawnBytes are bytes of which many end lines, or look like chunks.
func drawnBytes(r *rand.Rand, n int) string {
	b := make([]byte, n)
	for i := range b {
		b[i] = oneOf(r, '\r', '\n', '0', 'a', ':', byte(r.Intn(256)))
	}
	return string(b)
}

// inChunks is a body in drawn chunks, with drawn trailers.
func inChunks(r *rand.Rand, body string) string {
	var b strings.Builder
	for body != "" {
		n := 1 + r.Intn(len(body))
		fmt.Fprintf(&b, "%s%x%s\r\n%s\r\n", oneOf(r, "", "0", "00"), n, oneOf(r, "", ";", ";x=y"), body[:n])
		body = body[n:]
	}
	b.WriteString(oneOf(r, "0", "000", "0;z") + "\r\n")
	for range r.Intn(3) {
		b.WriteString(oneOf(r, "A: b", "Content-Length: 3", "c:") + "\r\n")
	}
	return b.String() + "\r\n"
}

// drawnMessage is a right request of at most 12 bytes of a body.
func drawnMessage(r *rand.Rand) message {
	m := message{head: api.Head{Request: true, Method: oneOf(r, "GET", "PUT", "x"), Target: oneOf(r, "/", "*", "/a?b", "http://c/"), Minor: r.Intn(2)}}
	var lines strings.Builder
	add := func(name, value string) {
		m.head.Fields = append(m.head.Fields, api.Field{Name: name, Value: value})
		lines.WriteString(name + ":" + oneOf(r, "", " ", "\t ") + value + oneOf(r, "", " ") + "\r\n")
	}
	for range r.Intn(3) {
		add(oneOf(r, "Host", "X-A", "Connection"), oneOf(r, "a", "", "close", "b c"))
	}
	behind := ""
	switch r.Intn(3 + m.head.Minor) {
	case 0: // without a body
	case 1, 2:
		m.body = drawnBytes(r, r.Intn(13))
		behind = m.body
		add("Content-Length", fmt.Sprint(len(m.body)))
	case 3:
		m.body = drawnBytes(r, r.Intn(13))
		behind = inChunks(r, m.body)
		add("Transfer-Encoding", oneOf(r, "chunked", "CHUNKED"))
	}
	empty := strings.Repeat("\r\n", r.Intn(3)*r.Intn(3))
	m.text = fmt.Sprintf("%s%s %s HTTP/1.%d\r\n%s\r\n%s", empty, m.head.Method, m.head.Target, m.head.Minor, &lines, behind)
	return m
}

// fault is a text with which something is wrong at its last byte.
type fault struct {
	text   string
	status int
}

// drawnFault is a wrong request, where a head may have 200 bytes and a body 12.
func drawnFault(r *rand.Rand) fault {
	return oneOf(r,
		fault{"\n", 400}, fault{"\r\n\r\n\r\n\r\n\r\n", 400}, fault{"GET / HTTP/2.0\r\n", 400}, fault{line + "A : b\r\n", 400}, fault{line + "A: b\rx", 400}, fault{line + "A: b\r\n\tc\r\n", 400},
		fault{strings.Repeat("G", 201), 431}, fault{line + "A: " + strings.Repeat("b", 201-len(line)-3), 431},
		fault{line + "Transfer-Encoding: x\r\n\r\n", 400}, fault{line + "Content-Length: 1, 2\r\n\r\n", 400}, fault{line + "Content-Length: 3\r\nTransfer-Encoding: chunked\r\n\r\n", 400},
		fault{line + "Content-Length: 13\r\n\r\n", 413}, fault{coded + "d\r\n", 413}, fault{coded + "c\r\n0123456789ab\r\n1\r\n", 413}, fault{coded + "3\r\nabcd", 400}, fault{coded + "0\r\nx\r\n", 400})
}

// toldBy are the requests that a connection tells of a text in pieces of drawn sizes, each answered and kept, and how many bytes it read.
func toldBy(t *testing.T, c *client.Client, text string, size func() int) ([]message, int) {
	t.Helper()
	var told []message
	read := 0
	for read < len(text) && !c.Shut() {
		n, whole := c.Read([]byte(text[read:min(read+size(), len(text))]))
		read += n
		v := seen(c)
		if v.whole != whole {
			t.Fatalf("Read tells %v, Request %v", whole, v.whole)
		}
		if !whole {
			continue
		}
		if n, whole := c.Read([]byte(text[read:])); n != 0 || !whole { // none is told ahead of the answer
			t.Fatalf("Read while it waits: %d, %v", n, whole)
		}
		told = append(told, message{"", v.head, v.body})
		if e := c.Answered(true); e != api.OK {
			t.Fatalf("Answered: %v", e)
		}
	}
	return told, read
}

// 23.4, 23.5 (P3): drawn requests one behind the other, and perhaps a wrong one and right ones behind it: in one piece, byte by byte, and in drawn pieces.
func TestPieces(t *testing.T) {
	r := rand.New(rand.NewSource(23))
	met := map[int]int{}
	for range 4000 {
		var all strings.Builder
		var want []message
		for range r.Intn(5) {
			m := drawnMessage(r)
			all.WriteString(m.text)
			want = append(want, message{"", m.head, m.body})
		}
		whole, status := all.Len(), 0
		if r.Intn(2) == 0 {
			f := drawnFault(r)
			all.WriteString(f.text)
			whole, status = all.Len(), f.status
			all.WriteString(drawnMessage(r).text + drawnMessage(r).text)
		}
		text := all.String()
		most := 1 + r.Intn(20)
		for how, size := range map[string]func() int{
			"in one piece":    func() int { return len(text) },
			"byte by byte":    func() int { return 1 },
			"in drawn pieces": func() int { return r.Intn(most + 1) },
		} {
			c := made(t, 200, 12)
			told, n := toldBy(t, c, text, size)
			if !reflect.DeepEqual(told, want) || n != whole {
				t.Fatalf("%q %s: %+v, %d; want %+v, %d", text, how, told, n, want, whole)
			}
			stand := fresh
			if status != 0 {
				stand = wrong(status)
			}
			stands(t, c, stand)
			ends(t, c, true, view{shut: true, wrong: status})
			met[status]++
		}
	}
	for _, status := range []int{0, 400, 413, 431} {
		if met[status] < 100 {
			t.Errorf("the status %d: only %d times", status, met[status])
		}
	}
}

// 23.4: requests of each kind, parted at each two places.
func TestParted(t *testing.T) {
	for _, m := range messages() {
		if len(m.text) > 200 {
			continue
		}
		for i := range len(m.text) {
			for j := i; j < len(m.text); j++ {
				c := made(t, 200, 100)
				for k, piece := range []string{m.text[:i], m.text[i:j], m.text[j:]} {
					if n, whole := c.Read([]byte(piece)); n != len(piece) || whole != (k == 2) { // the last one is never empty
						t.Fatalf("%q at %d and %d: Read(%q): %d, %v", m.text, i, j, piece, n, whole)
					}
				}
				if got := seen(c); !reflect.DeepEqual(got, waiting(m.head, m.body)) {
					t.Fatalf("%q at %d and %d: %+v", m.text, i, j, got)
				}
			}
		}
	}
}

// model is a connection by the chapter's words: it looks at all that was read of the request anew, at each call.
type model struct {
	head, body int
	came       string // what was read of the request
	view              // how it stands
}

// look is how a connection stands that read nothing but a text, and how many bytes of it that were.
func (m *model) look(text string) (view, int) {
	if text == "" {
		return fresh, 0
	}
	p, _ := head.New(true, m.head)
	n, whole, e := p.Feed([]byte(text))
	switch {
	case e == api.ErrLarge:
		return wrong(431), n
	case e != api.OK:
		return wrong(400), n
	case !whole:
		return begun, n
	}
	f, e := framing.Request(p.Head())
	if e != api.OK {
		return wrong(400), n
	}
	r, e := body.New(f, m.body)
	if e != api.OK {
		return wrong(413), n
	}
	b, more, whole, e := r.Feed([]byte(text[n:]))
	switch {
	case e == api.ErrLong:
		return wrong(413), n + more
	case e != api.OK:
		return wrong(400), n + more
	case !whole && f.Kind != api.FrNone:
		return begun, n + more
	}
	h := p.Head()
	if len(h.Fields) == 0 {
		h.Fields = nil
	}
	return waiting(h, string(b)), n + more
}

func (m *model) read(b string) int {
	if m.whole || m.shut {
		return 0
	}
	before := len(m.came)
	var n int
	m.view, n = m.look(m.came + b)
	m.came = (m.came + b)[:n]
	return n - before
}

func (m *model) ended() bool {
	switch {
	case m.whole:
		return false
	case m.begun:
		m.view = wrong(400)
	case !m.shut:
		m.view = shut
	}
	return true
}

func (m *model) answer(keep bool) api.Errno {
	if !m.whole {
		return api.ErrState
	}
	m.view, m.came = shut, ""
	if keep {
		m.view = fresh
	}
	return api.OK
}

// drawnText are requests, right ones and wrong ones, and pieces of them.
func drawnText(r *rand.Rand) string {
	var b strings.Builder
	for range 1 + r.Intn(4) {
		switch r.Intn(12) {
		case 0:
			b.WriteString(drawnFault(r).text)
		case 1:
			text := drawnMessage(r).text
			b.WriteString(text[:r.Intn(len(text))])
		case 2:
			b.WriteString(drawnBytes(r, r.Intn(4)))
		default:
			b.WriteString(drawnMessage(r).text)
		}
	}
	return b.String()
}

// kind is how a connection stands, in a word.
func (v view) kind() string {
	switch {
	case v.whole:
		return "waits"
	case v.begun:
		return "begun"
	case v.shut:
		return fmt.Sprint("shut ", v.wrong)
	}
	return "fresh"
}

// 23.1 to 23.5, R4, R6: rows of calls, held against the model; two connections are told the same.
func TestRows(t *testing.T) {
	r := rand.New(rand.NewSource(3))
	met := map[string]int{}
	for range 12000 {
		m := model{head: oneOf(r, 16, 40, 200, 200, 200), body: oneOf(r, 0, 3, 12, 12, 12)}
		one, other := made(t, m.head, m.body), made(t, m.head, m.body)
		text := drawnText(r)
		for range 12 {
			before, what := m.kind(), ""
			switch r.Intn(9) {
			case 0:
				what = "End"
				closed := m.ended()
				ends(t, one, closed, m.view)
				ends(t, other, closed, m.view)
			case 1, 2:
				what = "Answered"
				keep := r.Intn(5) > 0
				e := m.answer(keep)
				answered(t, one, keep, e, m.view)
				answered(t, other, keep, e, m.view)
			default:
				what = "Read"
				piece := text[:min(len(text), r.Intn(oneOf(r, 2, 20, 200)))]
				n := m.read(piece)
				reads(t, one, piece, n, m.view)
				reads(t, other, piece, n, m.view)
				text = text[n:]
			}
			met[what+" "+before]++
			if t.Failed() {
				t.Fatalf("%s, bounds %d and %d, %q is left", what, m.head, m.body, text)
			}
		}
	}
	for _, what := range []string{"Read", "End", "Answered"} {
		for _, stand := range []string{"fresh", "begun", "waits", "shut 0", "shut 400", "shut 413", "shut 431"} {
			if n := met[what+" "+stand]; n < 50 {
				t.Errorf("%s where it was %s: only %d times", what, stand, n)
			}
		}
	}
}

// P1: bytes of any kind end, and many of them.
func TestAnyBytes(t *testing.T) {
	r := rand.New(rand.NewSource(1))
	for range 20000 {
		c := made(t, 16+r.Intn(30), r.Intn(9))
		for range 6 {
			b := []byte(oneOf(r, line, coded, "\r\n", "") + drawnBytes(r, r.Intn(20)))
			n, whole := c.Read(b)
			v := seen(c)
			over := v.whole || v.shut
			if n < 0 || n > len(b) || n < len(b) && !over || whole != v.whole || v.whole && v.shut || v.begun && over {
				t.Fatalf("Read(%q): %d, %v; %+v", b, n, whole, v)
			}
			if whole {
				c.Answered(r.Intn(4) > 0)
			}
		}
		if !c.End() || !c.Shut() {
			t.Fatal("End, and it is not shut")
		}
	}
	c := made(t, api.MaxHead, api.MaxBytes)
	big := strings.Repeat("b", api.MaxBytes)
	text := fmt.Sprintf("%sContent-Length: %d\r\n\r\n", line, api.MaxBytes)
	for range 3 {
		reads(t, c, text, len(text), begun)
		reads(t, c, big+big, api.MaxBytes, waiting(request("PUT", "/a", "Content-Length", fmt.Sprint(api.MaxBytes)), big))
		answered(t, c, true, api.OK, fresh)
	}
}
