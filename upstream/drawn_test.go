package upstream_test

import (
	"fmt"
	"math/rand"
	"reflect"
	"strings"
	"testing"

	"headrace/api"
	"headrace/body"
	"headrace/framing"
	"headrace/head"
	"headrace/lexis"
	"headrace/upstream"
)

// oneOf draws one of a list.
func oneOf[T any](r *rand.Rand, l ...T) T { return l[r.Intn(len(l))] }

// drawnBytes are bytes of which many end lines, or look like chunks.
func drawnBytes(r *rand.Rand, n int) string {
	b := make([]byte, n)
	for i := range b {
		b[i] = oneOf(r, '\r', '\n', '0', 'a', ':', byte(r.Intn(256)))
	}
	return string(b)
}

// drawnChunks is a body in drawn chunks, with drawn trailers.
func drawnChunks(r *rand.Rand, body string) string {
	var b strings.Builder
	for body != "" {
		n := 1 + r.Intn(len(body))
		fmt.Fprintf(&b, "%s%x%s\r\n%s\r\n", oneOf(r, "", "0", "00"), n, oneOf(r, "", ";", ";x=y"), body[:n])
		body = body[n:]
	}
	b.WriteString(oneOf(r, "0", "000", "0;z") + "\r\n")
	for range r.Intn(3) {
		b.WriteString(oneOf(r, "A: b", "Content-Length: 3", "c:") + "\r\n")
	}
	return b.String() + "\r\n"
}

// drawnInterim are up to most interim heads.
func drawnInterim(r *rand.Rand, most int) string {
	var b strings.Builder
	for range r.Intn(most + 1) {
		b.WriteString(oneOf(r, interim, "HTTP/1.0 100 \r\nContent-Length: 5\r\n\r\n", "HTTP/1.1 199 Y\r\nConnection: close\r\nTransfer-Encoding: x\r\n\r\n"))
	}
	return b.String()
}

// drawnMessage is a right response, behind interim ones.
func drawnMessage(r *rand.Rand) message {
	minor := r.Intn(2)
	m := message{method: oneOf(r, "GET", "GET", "PUT", "HEAD"), head: response(minor, oneOf(r, 200, 200, 206, 204, 304, 404, 503, 599), oneOf(r, "OK", "", " x "))}
	var lines strings.Builder
	add := func(name, value string) {
		m.head.Fields = append(m.head.Fields, api.Field{Name: name, Value: value})
		lines.WriteString(name + ":" + oneOf(r, "", " ", "\t ") + value + oneOf(r, "", " ") + "\r\n")
	}
	keep := minor == 1
	switch r.Intn(4) {
	case 0:
		add("Connection", oneOf(r, "close", "x, Close", "close, keep-alive"))
		keep = false
	case 1:
		add("connection", oneOf(r, "keep-alive", "Keep-Alive, x"))
		keep = true
	case 2:
		add("X-A", oneOf(r, "", "b", "close"))
	}
	text := drawnBytes(r, r.Intn(30))
	behind := text
	switch r.Intn(2 + minor) {
	case 0:
		m.framing = toEnd()
	case 1:
		m.framing = length(len(text), keep)
		add("Content-Length", fmt.Sprint(len(text)))
	case 2:
		m.framing = inChunks(keep)
		behind = drawnChunks(r, text)
		add("Transfer-Encoding", oneOf(r, "chunked", "CHUNKED"))
	}
	if m.method == "HEAD" || m.head.Status == 204 || m.head.Status == 304 {
		m.framing, text, behind = none(keep), "", ""
	}
	m.body = text
	m.text = fmt.Sprintf("%sHTTP/1.%d %d %s\r\n%s\r\n%s", drawnInterim(r, oneOf(r, 0, 1, 2, upstream.MaxInterim)), minor, m.head.Status, m.head.Reason, &lines, behind)
	return m
}

// fault is a text with which something is wrong at its last byte, and the body's bytes ahead of it.
type fault struct {
	text, body string
	e          api.Errno
}

// drawnFault is a wrong response to a GET, where a head may have 200 bytes.
func drawnFault(r *rand.Rand) fault {
	f := oneOf(r,
		fault{"\n", "", api.ErrBare}, fault{"\r\n", "", api.ErrStart}, fault{"HTTP/1.1 101 X\r\n\r\n", "", api.ErrStart}, fault{"HTTP/3.0 200 OK\r\n", "", api.ErrVersion}, fault{line + "A : b\r\n", "", api.ErrSpace},
		fault{line + "A\r\n", "", api.ErrColon}, fault{line + "A: b\r\n c\r\n", "", api.ErrFold}, fault{strings.Repeat("H", 201), "", api.ErrLarge},
		fault{line + "Transfer-Encoding: x\r\n\r\n", "", api.ErrCoding}, fault{line + "Content-Length: 1, 2\r\n\r\n", "", api.ErrLengths}, fault{line + "Content-Length: 3\r\nTransfer-Encoding: chunked\r\n\r\n", "", api.ErrBoth},
		fault{coded + "3\r\nabcd", "abc", api.ErrChunk}, fault{coded + "1\r\na\r\n0\r\nx\r\n", "a", api.ErrChunk}, fault{coded + "2\r\nab\r\n20000000000000\r\n", "ab", api.ErrLong})
	if r.Intn(8) == 0 {
		return fault{strings.Repeat(interim, upstream.MaxInterim+1), "", api.ErrStart}
	}
	f.text = drawnInterim(r, upstream.MaxInterim) + f.text
	return f
}

// reading is what a reader told of a text, in however many pieces.
type reading struct {
	n    int
	body string
	e    api.Errno
	view
}

// inPieces reads a text in pieces of drawn sizes.
func inPieces(r *upstream.Reader, text string, size func() int) reading {
	var all reading
	for all.n < len(text) && all.e == api.OK && !r.Whole() {
		n, b, e := r.Read([]byte(text[all.n:min(all.n+size(), len(text))]))
		all.n += n
		all.body += string(b)
		all.e = e
	}
	all.view = seen(r)
	return all
}

// waysToPart are a text in one piece, byte by byte, and in drawn pieces with empty ones among them.
func waysToPart(r *rand.Rand, text string) map[string]func() int {
	most := 1 + r.Intn(20)
	return map[string]func() int{
		"in one piece":    func() int { return len(text) },
		"byte by byte":    func() int { return 1 },
		"in drawn pieces": func() int { return r.Intn(most + 1) },
	}
}

// 24.4 (P3): drawn right responses, with bytes behind them: in one piece, byte by byte, and in drawn pieces.
func TestPieces(t *testing.T) {
	r := rand.New(rand.NewSource(24))
	met := map[int]int{}
	for range 4000 {
		m := drawnMessage(r)
		text, want := m.text+drawnMessage(r).text, reading{len(m.text), m.body, api.OK, m.whole()}
		if m.framing.Kind == api.FrClose {
			text, want.view = m.text, m.partly()
		}
		met[m.framing.Kind]++
		for how, size := range waysToPart(r, text) {
			x := made(t, m.method, 200)
			if got := inPieces(x, text, size); !reflect.DeepEqual(got, want) {
				t.Fatalf("%q %s: %+v; want %+v", text, how, got, want)
			}
			ends(t, x, api.OK, m.ended())
		}
	}
	for kind := api.FrNone; kind <= api.FrClose; kind++ {
		if met[kind] < 300 {
			t.Errorf("the framing %d: only %d times", kind, met[kind])
		}
	}
}

// 24.4: drawn wrong responses, likewise; right ones behind them are not read.
func TestWrongPieces(t *testing.T) {
	r := rand.New(rand.NewSource(42))
	for range 2000 {
		f := drawnFault(r)
		text := f.text + drawnMessage(r).text
		var first *reading
		for how, size := range waysToPart(r, text) {
			x := made(t, "GET", 200)
			got := inPieces(x, text, size)
			if got.n != len(f.text) || got.body != f.body || got.e != f.e || got.whole || got.again {
				t.Fatalf("%q %s: %+v; want %+v", text, how, got, f)
			}
			if first == nil {
				first = &got
			}
			if !reflect.DeepEqual(got, *first) {
				t.Fatalf("%q %s: %+v; want %+v", text, how, got, *first)
			}
			stays(t, x, f.e, got.view)
		}
	}
}

// 24.4: a drawn response that is cut off is never whole, but where it ends with its connection.
func TestCutOff(t *testing.T) {
	r := rand.New(rand.NewSource(4))
	for range 4000 {
		m := drawnMessage(r)
		cut := r.Intn(len(m.text))
		for how, size := range waysToPart(r, m.text[:cut]) {
			x := made(t, m.method, 200)
			inPieces(x, m.text[:cut], size)
			e := x.End()
			if byEnd := m.framing.Kind == api.FrClose && cut >= len(m.text)-len(m.body); x.Whole() != byEnd || (e == api.OK) != byEnd || x.Again() {
				t.Fatalf("%q cut at %d, %s: %v, whole %v", m.text, cut, how, e, x.Whole())
			}
			stays(t, x, e, seen(x))
			reads(t, x, m.text[cut:], 0, "", e, seen(x))
		}
	}
}

// model is a reader by the chapter's words: it looks at all that was read anew, at each call.
type model struct {
	method string
	most   int
	came   string // what was read
	told   int    // bytes of the body that were told
	view
	wrong api.Errno
}

// look is how a reader stands that read nothing but a text, all the body's bytes, and how many bytes of the text it read.
func (m *model) look(text string) (view, string, int, api.Errno) {
	at := 0
	for passed := 0; ; passed++ {
		p, _ := head.New(false, m.most)
		n, whole, e := p.Feed([]byte(text[at:]))
		at += n
		h := p.Head()
		switch {
		case !whole:
			return view{}, "", at, e
		case h.Status == 101, h.Status < 200 && passed == 8:
			return view{}, "", at, api.ErrStart
		case h.Status < 200:
			continue
		}
		if len(h.Fields) == 0 {
			h.Fields = nil
		}
		f, e := framing.Response(h, m.method)
		v := view{head: h, known: true, framing: f}
		if e != api.OK {
			return v, "", at, e
		}
		r, _ := body.New(f, lexis.MaxSize)
		b, n, _, e := r.Feed([]byte(text[at:]))
		v.whole = r.Whole()
		v.again = v.whole && f.Keep
		return v, string(b), at + n, e
	}
}

func (m *model) read(b string) (int, string, api.Errno) {
	if m.whole || m.wrong != api.OK {
		return 0, "", m.wrong
	}
	before := len(m.came)
	v, all, n, e := m.look(m.came + b)
	m.came = (m.came + b)[:n]
	told := all[m.told:]
	m.view, m.wrong, m.told = v, e, len(all)
	return n - before, told, e
}

func (m *model) end() api.Errno {
	m.again = false
	if !m.whole && m.wrong == api.OK {
		m.whole = m.framing.Kind == api.FrClose
		if !m.whole {
			m.wrong = api.ErrCut
		}
	}
	return m.wrong
}

// drawnText is a response to a method, right or wrong, and perhaps more behind it.
func drawnText(r *rand.Rand) (string, string) {
	switch r.Intn(4) {
	case 0:
		return "GET", drawnFault(r).text + drawnMessage(r).text
	case 1:
		m := drawnMessage(r)
		return m.method, m.text[:r.Intn(len(m.text))] + drawnBytes(r, r.Intn(4)) + m.text
	}
	m := drawnMessage(r)
	return m.method, m.text + drawnMessage(r).text
}

// kind is how the model stands, in a word.
func (m *model) kind() string {
	switch {
	case m.wrong != api.OK:
		return "wrong"
	case m.whole:
		return "whole"
	case m.known:
		return fmt.Sprint("body ", m.framing.Kind)
	}
	return "head"
}

// 24.1 to 24.4, R4, R6: rows of calls, held against the model; two readers are told the same.
func TestRows(t *testing.T) {
	r := rand.New(rand.NewSource(2))
	met := map[string]int{}
	for range 10000 {
		method, text := drawnText(r)
		m := model{method: method, most: oneOf(r, 16, 40, 200, 200, 200, 200, 200, 200)}
		one, other := made(t, method, m.most), made(t, method, m.most)
		for behind := 0; behind < 4 && (text != "" || behind > 0); { // some calls behind its end too
			before, what := m.kind(), "Read"
			if m.whole || m.wrong != api.OK {
				behind++
			}
			often := 40
			if strings.HasPrefix(before, "body") { // short as bodies are, an end seldom falls in one
				often = 4
			}
			if r.Intn(often) == 0 {
				what = "End"
				e := m.end()
				ends(t, one, e, m.view)
				ends(t, other, e, m.view)
			} else {
				piece := text[:min(len(text), r.Intn(oneOf(r, 4, 20, 20, 200)))]
				n, b, e := m.read(piece)
				reads(t, one, piece, n, b, e, m.view)
				reads(t, other, piece, n, b, e, m.view)
				text = text[n:]
			}
			met[what+" "+before]++
			if t.Failed() {
				t.Fatalf("%s, method %s, at most %d, %q is left", what, method, m.most, text)
			}
		}
	}
	for _, what := range []string{"Read", "End"} {
		for _, stand := range []string{"head", "body 2", "body 3", "body 4", "whole", "wrong"} {
			if n := met[what+" "+stand]; n < 50 {
				t.Errorf("%s where it was %s: only %d times", what, stand, n)
			}
		}
	}
}

// P1: bytes of any kind end.
func TestAnyBytes(t *testing.T) {
	r := rand.New(rand.NewSource(1))
	for range 20000 {
		x := made(t, oneOf(r, "GET", "HEAD"), 16+r.Intn(60))
		wrong := api.OK
		for range 4 {
			b := []byte(oneOf(r, line, coded, interim, "\r\n", "") + drawnBytes(r, r.Intn(20)))
			n, told, e := x.Read(b)
			if n < 0 || n > len(b) || len(told) > n || n < len(b) && e == api.OK && !x.Whole() || x.Whole() && e != api.OK || wrong != api.OK && (n != 0 || e != wrong) {
				t.Fatalf("Read(%q): %d, %q, %v, whole %v", b, n, told, e, x.Whole())
			}
			wrong = e
		}
		if e := x.End(); x.Whole() == (e != api.OK) || x.Again() {
			t.Fatalf("End: %v, whole %v", e, x.Whole())
		}
	}
}
