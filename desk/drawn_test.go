package desk_test

import (
	"bytes"
	"fmt"
	"math/rand"
	"strings"
	"testing"

	"headrace/api"
	"headrace/desk"
	"headrace/proxy"
)

// drawEvent draws an event of any kind, or one that is none.
func drawEvent(r *rand.Rand) api.Event {
	number := func() int {
		return []int{r.Intn(9), r.Intn(greatest), greatest, 0, -r.Intn(9), greatest + r.Intn(9), proxy.Base + r.Intn(9)}[r.Intn(7)]
	}
	e := api.Event{Kind: r.Intn(12)}
	if r.Intn(4) > 0 {
		e.Conn = number()
	}
	if r.Intn(3) == 0 {
		e.N = number()
	}
	if e.Kind == api.EvBytes || r.Intn(9) == 0 {
		e.Bytes = make([]byte, r.Intn(20))
		r.Read(e.Bytes)
	}
	return e
}

// 28.4: an event whose line is told is told by that line; one whose numbers and lists are those of its kind has a line.
func TestDrawnEvents(t *testing.T) {
	r := rand.New(rand.NewSource(28))
	told := 0
	for range 100000 {
		e := drawEvent(r)
		right := false
		for _, x := range rows {
			right = right || x.kind == e.Kind && (x.conn || e.Conn == 0) && (x.n || e.N == 0) && len(e.Bytes) == 0
		}
		right = right || e.Kind == api.EvBytes && e.N == 0
		right = right && e.Conn >= 0 && e.Conn <= greatest && e.N >= 0 && e.N <= greatest
		line, err := desk.Line(e)
		if right != (err == api.OK) || err != api.OK && (line != "" || err != api.ErrForm) {
			t.Fatalf("Line(%v): %q, %v", e, line, err)
		}
		if !right {
			continue
		}
		told++
		event(t, line, e)
		if strings.Contains(line, "\n") {
			t.Errorf("%q", line)
		}
	}
	if told < 10000 {
		t.Errorf("%d events are too few to tell anything", told)
	}
}

// P1, P5: whatever line there is, it is told or it is none; what is told has that line alone.
func TestDrawnLines(t *testing.T) {
	r := rand.New(rand.NewSource(281))
	words := []string{"tick", "open", "bytes", "end", "reset", "up", "refused", "room", "draw", "drain", "host", "#", "", "0", "1", "01", "4294967295", "4294967296", "x", `\x00`, `\n`, `\`, "\n", "\xff"}
	for range 100000 {
		var l []string
		for range 1 + r.Intn(4) {
			l = append(l, words[r.Intn(len(words))])
		}
		line := strings.Join(l, " ")
		e, err := desk.Event(line)
		if err != api.OK {
			noEvent(t, line)
			continue
		}
		if again, err := desk.Line(e); again != line || err != api.OK {
			t.Fatalf("Event(%q): %v, whose line is %q, %v", line, e, again, err)
		}
	}
}

// drawScript draws a script's configuration and its events, of which none is refused.
func drawScript(r *rand.Rand) (string, string) {
	c := ""
	for i := range 1 + r.Intn(3) {
		c += fmt.Sprintf("host %c %d %d\n", 'a'+i, 1+r.Intn(2), r.Intn(2))
	}
	c += fmt.Sprintf("route / %d %d %d %d\n", r.Intn(3), 1+r.Intn(9), 1+r.Intn(9), r.Intn(3))
	if r.Intn(2) == 0 {
		c += fmt.Sprintf("limits %d %d %d\n", 100+r.Intn(99), r.Intn(9), 1+r.Intn(99))
	}
	events := ""
	for range r.Intn(60) {
		conn, link := r.Intn(4), proxy.Base+r.Intn(5)
		events += []string{
			fmt.Sprintf("tick %d\n", r.Intn(60)),
			fmt.Sprintf("open %d\n", conn),
			fmt.Sprintf("bytes %d GET /%d HTTP/1.1\\r\\nHost: a\\r\\n\\r\\n\n", conn, r.Intn(9)),
			fmt.Sprintf("bytes %d GET\n", conn),
			fmt.Sprintf("end %d\n", conn),
			fmt.Sprintf("reset %d\n", []int{conn, link}[r.Intn(2)]),
			fmt.Sprintf("up %d\n", link),
			fmt.Sprintf("up %d\n", link),
			fmt.Sprintf("bytes %d HTTP/1.1 200 OK\\r\\nContent-Length: 2\\r\\n\\r\\nab\n", link),
			fmt.Sprintf("refused %d\n", link),
			fmt.Sprintf("room %d %d\n", conn, r.Intn(400)),
			fmt.Sprintf("draw %d\n", r.Intn(1<<32)),
			"#\n", "\n",
		}[r.Intn(14)]
		if r.Intn(200) == 0 {
			events += "drain\n"
		}
	}
	return c, events
}

func run(t *testing.T, script string) string {
	t.Helper()
	s, line, e := desk.Run(script)
	if line != 0 || e != api.OK {
		t.Fatalf("Run(%q): %q, %d, %v", script, s, line, e)
	}
	return s
}

// 28.3, 28.4: a script tells the acts of a proxy, a beginning of it a beginning, and lines that are passed over change nothing but numbers.
func TestDrawnScripts(t *testing.T) {
	r := rand.New(rand.NewSource(282))
	total := 0
	for range 1500 {
		c, events := drawScript(r)
		whole := run(t, c+events)
		total += strings.Count(whole, "\n")
		if want := byHand(t, c, events); whole != want {
			t.Fatalf("%q: %q; want %q", c+events, whole, want)
		}
		lines := strings.SplitAfter(events, "\n")
		n := r.Intn(len(lines))
		if s := run(t, c+strings.Join(lines[:n], "")); !strings.HasPrefix(whole, s) {
			t.Fatalf("%q tells %q; its beginning %q", c+events, whole, s)
		}
		more := c
		for i, line := range lines {
			more += line
			if i < len(lines)-1 {
				more += []string{"", "\n", "#\n", "# x\n\n"}[r.Intn(4)]
			}
		}
		if s := run(t, more); s != whole {
			t.Fatalf("%q: %q; want %q", more, s, whole)
		}
		if s := run(t, strings.TrimSuffix(c+events, "\n")); s != whole {
			t.Fatalf("%q without its end: %q", c+events, s)
		}
	}
	if total < 3000 {
		t.Errorf("%d lines are too few to tell anything", total)
	}
}

// byHand is what a proxy does by the events of some lines.
func byHand(t *testing.T, c, events string) string {
	t.Helper()
	set, _, e := desk.Config(c)
	if e != api.OK {
		t.Fatal(e)
	}
	p, _ := proxy.New(set)
	var told bytes.Buffer
	for line := range strings.Lines(events) {
		line = strings.TrimSuffix(line, "\n")
		if line == "" || line[0] == '#' {
			continue
		}
		x, e := desk.Event(line)
		if e != api.OK {
			t.Fatalf("%q: %v", line, e)
		}
		acts, _ := p.Step(x)
		for _, a := range acts {
			s, _ := desk.Act(a)
			fmt.Fprintln(&told, s)
		}
	}
	return told.String()
}

// P1: whatever script there is, it ends, and an error stands alone (R4).
func TestDrawnGarbage(t *testing.T) {
	r := rand.New(rand.NewSource(283))
	for range 3000 {
		c, events := drawScript(r)
		b := []byte(c + events)
		for range 1 + r.Intn(3) {
			if i := r.Intn(len(b)); r.Intn(2) == 0 {
				b[i] = byte(r.Intn(256))
			} else {
				b = append(b[:i], b[i+1:]...)
			}
			if len(b) == 0 {
				break
			}
		}
		script := string(b)
		set, line, e := desk.Config(script)
		lines := strings.Count(script, "\n") + 1
		if (e == api.OK || e == api.ErrConfig) != (line == 0) || line > lines || e != api.OK && len(set.Hosts)+len(set.Routes) > 0 {
			t.Fatalf("Config(%q): %v, %d, %v", script, set, line, e)
		}
		s, at, err := desk.Run(script)
		if err != api.ErrArg && (err != e || at != line) || err != api.OK && s != "" || err == api.ErrArg && at == 0 {
			t.Fatalf("Run(%q): %q, %d, %v", script, s, at, err)
		}
	}
}
