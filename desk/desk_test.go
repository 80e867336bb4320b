package desk_test

import (
	"fmt"
	"math"
	"reflect"
	"strings"
	"testing"

	"headrace/api"
	"headrace/desk"
)

const greatest = 1<<32 - 1

// same tells whether two events are; a list without an element is one, nil or not (R2).
func same(a, b api.Event) bool {
	return a.Kind == b.Kind && a.Conn == b.Conn && a.N == b.N && string(a.Bytes) == string(b.Bytes)
}

func event(t *testing.T, line string, want api.Event) {
	t.Helper()
	if e, err := desk.Event(line); !same(e, want) || err != api.OK {
		t.Errorf("Event(%q): %v, %v; want %v", line, e, err, want)
	}
}

func noEvent(t *testing.T, lines ...string) {
	t.Helper()
	for _, line := range lines {
		if e, err := desk.Event(line); !reflect.DeepEqual(e, api.Event{}) || err != api.ErrForm {
			t.Errorf("Event(%q): %v, %v", line, e, err)
		}
	}
}

// rows are the events' lines: their first words, kinds, and how many numbers follow.
var rows = []struct {
	word    string
	kind    int
	conn, n bool
}{
	{"tick", api.EvTick, false, true},
	{"open", api.EvOpen, true, false},
	{"end", api.EvEnd, true, false},
	{"reset", api.EvReset, true, false},
	{"up", api.EvUp, true, false},
	{"refused", api.EvRefused, true, false},
	{"room", api.EvRoom, true, true},
	{"draw", api.EvDraw, false, true},
	{"drain", api.EvDrain, false, false},
}

// 28.1: each kind of line, right, and with a word more, one fewer, two blanks, and each number that is none.
func TestEvents(t *testing.T) {
	for _, x := range rows {
		for _, n := range []int{0, 1, 7, 10, greatest - 1, greatest} {
			line, e := x.word, api.Event{Kind: x.kind}
			if x.conn {
				line, e.Conn = fmt.Sprint(line, " ", n), n
			}
			if x.n {
				line, e.N = fmt.Sprint(line, " ", n/2), n/2
			}
			event(t, line, e)
			if s, err := desk.Line(e); s != line || err != api.OK {
				t.Errorf("Line(%v): %q, %v; want %q", e, s, err, line)
			}
			noEvent(t, line+" ", line+" 1", line+" x", " "+line, line+"\n", line+"\r", "\n"+line, strings.ToUpper(line), "#"+line)
			if x.conn || x.n {
				noEvent(t, line[:strings.LastIndex(line, " ")], line[:strings.LastIndex(line, " ")+1], strings.Replace(line, " ", "  ", 1), strings.Replace(line, " ", "\t", 1), strings.Replace(line, " ", "", 1))
			}
		}
		for _, n := range []string{"00", "01", "-1", "+1", "-0", "1.0", "1e3", "0x1", "1_0", "4294967296", "10000000000000000000000", "x", "٣", "1\n"} {
			switch {
			case x.conn && x.n:
				noEvent(t, x.word+" "+n+" 1", x.word+" 1 "+n)
			case x.conn || x.n:
				noEvent(t, x.word+" "+n)
			}
		}
	}
	noEvent(t, "", " ", "#", "x", "tic", "ticks 1", "byte 1 x", "host a 1 0", "route / 1 1 1 1", "limits 1 1 1", "parsed 1 0 0", "close 1")
}

// 28.1: a text stands for bytes, each in one way alone.
func TestTexts(t *testing.T) {
	for b := range 256 {
		var text string
		switch {
		case b == '\\':
			text = `\\`
		case b == '\r':
			text = `\r`
		case b == '\n':
			text = `\n`
		case b >= 32 && b <= 126:
			text = string(rune(b))
		default:
			text = fmt.Sprintf(`\x%02x`, b)
		}
		e := api.Event{Kind: api.EvBytes, Conn: b, Bytes: []byte{byte(b)}}
		line := fmt.Sprintf("bytes %d %s", b, text)
		event(t, line, e)
		if s, err := desk.Line(e); s != line || err != api.OK {
			t.Errorf("Line(%v): %q, %v; want %q", e, s, err, line)
		}
		hex := fmt.Sprintf(`bytes 1 \x%02x`, b)
		if !strings.HasPrefix(text, `\x`) {
			noEvent(t, hex)
		}
		if upper := strings.ToUpper(hex[10:]); upper != hex[10:] {
			noEvent(t, `bytes 1 \x`+upper)
		}
		noEvent(t, `bytes 1 \X`+hex[10:])
		if text != string(rune(b)) || b > 126 {
			noEvent(t, "bytes 1 "+string([]byte{byte(b)}))
		}
		if x := fmt.Sprintf("bytes 1 \\%c", b); b < 128 && !strings.ContainsRune(`rn\`, rune(b)) {
			noEvent(t, x)
		}
	}
	event(t, "bytes 1 ", api.Event{Kind: api.EvBytes, Conn: 1})
	event(t, "bytes 1  ", api.Event{Kind: api.EvBytes, Conn: 1, Bytes: []byte(" ")})
	event(t, "bytes 0 a  b #\"' ", api.Event{Kind: api.EvBytes, Bytes: []byte("a  b #\"' ")})
	event(t, `bytes 4294967295 \\n\\\n\x00x00`, api.Event{Kind: api.EvBytes, Conn: greatest, Bytes: []byte("\\n\\\n\x00x00")})
	noEvent(t, "bytes", "bytes ", "bytes 1", "bytes  x", "bytes x y", "bytes 01 x", "bytes -1 x", "bytes 4294967296 x", `bytes 1 \`, `bytes 1 a\`, `bytes 1 \x`, `bytes 1 \x0`, `bytes 1 \x0g`, `bytes 1 \xg0`, `bytes 1 \x 0`, `bytes 1 \x+1`, `bytes 1 \t`, `bytes 1 \0`, "bytes 1 \t", "bytes 1 x\n")
}

// 28.1: an event that no line tells.
func TestNoLine(t *testing.T) {
	for _, e := range []api.Event{
		{}, {Kind: -1}, {Kind: 11}, {Kind: math.MaxInt},
		{Kind: api.EvTick, N: -1}, {Kind: api.EvTick, N: greatest + 1}, {Kind: api.EvTick, Conn: 1}, {Kind: api.EvTick, Bytes: []byte("x")},
		{Kind: api.EvOpen, Conn: -1}, {Kind: api.EvOpen, Conn: greatest + 1}, {Kind: api.EvOpen, N: 1}, {Kind: api.EvOpen, Bytes: []byte("x")},
		{Kind: api.EvBytes, Conn: -1}, {Kind: api.EvBytes, Conn: greatest + 1}, {Kind: api.EvBytes, N: 1},
		{Kind: api.EvRoom, Conn: -1}, {Kind: api.EvRoom, N: math.MinInt}, {Kind: api.EvRoom, Bytes: []byte("x")},
		{Kind: api.EvDraw, N: math.MaxInt}, {Kind: api.EvDraw, Conn: -1},
		{Kind: api.EvDrain, Conn: 1}, {Kind: api.EvDrain, N: 1}, {Kind: api.EvDrain, Bytes: []byte("x")},
	} {
		if s, err := desk.Line(e); s != "" || err != api.ErrForm {
			t.Errorf("Line(%v): %q, %v", e, s, err)
		}
	}
	for _, b := range [][]byte{nil, {}} {
		if s, err := desk.Line(api.Event{Kind: api.EvBytes, Conn: 5, Bytes: b}); s != "bytes 5 " || err != api.OK {
			t.Errorf("%q, %v", s, err)
		}
		if s, err := desk.Line(api.Event{Kind: api.EvDrain, Bytes: b}); s != "drain" || err != api.OK {
			t.Errorf("%q, %v", s, err)
		}
	}
}

// 28.1: each kind of act, of the fields that it names alone, each of them below 0 too; and kinds that are none.
func TestActs(t *testing.T) {
	for _, sign := range []int{1, -1} {
		a := api.Act{Conn: 2 * sign, Host: 3 * sign, Req: 4 * sign, Status: 5 * sign, N: 6 * sign, At: 7 * sign, Bytes: []byte("a \\\r\n\x00")}
		for kind, want := range map[int]string{
			api.AcOpen: "7 open 2 3", api.AcWrite: "7 write 2 a \\\\\\r\\n\\x00", api.AcClose: "7 close 2",
			api.AcParsed: "7 parsed 2 4 6", api.AcAdmit: "7 admit 2 4 6", api.AcTry: "7 try 4 3 6",
			api.AcAnswer: "7 answer 2 4 5 6", api.AcDone: "7 done 2 4",
			api.AcEject: "7 eject 3", api.AcRestore: "7 restore 3", api.AcDown: "7 down 3", api.AcHealthy: "7 healthy 3",
			api.AcBreak: "7 break 6", api.AcMend: "7 mend 6",
		} {
			a.Kind = kind
			if sign < 0 {
				for _, n := range "234567" {
					want = strings.Replace(want, string(n), "-"+string(n), 1)
				}
			}
			if s, e := desk.Act(a); s != want || e != api.OK {
				t.Errorf("Act(%+v): %q, %v; want %q", a, s, e, want)
			}
		}
		for _, kind := range []int{0, -1, 15, math.MinInt, math.MaxInt} {
			a.Kind = kind
			if s, e := desk.Act(a); s != "" || e != api.ErrForm {
				t.Errorf("Act(%+v): %q, %v", a, s, e)
			}
		}
	}
	for a, want := range map[string]api.Act{
		"0 write 0 ": {Kind: api.AcWrite},
		"4611686018427387904 close 9223372036854775807": {Kind: api.AcClose, Conn: math.MaxInt, At: api.MaxTick},
		"-9223372036854775808 break 0":                  {Kind: api.AcBreak, At: math.MinInt},
	} {
		if s, e := desk.Act(want); s != a || e != api.OK {
			t.Errorf("%q, %v; want %q", s, e, a)
		}
	}
}

// R3: an event shares nothing with what is told of it.
func TestLineShares(t *testing.T) {
	e, _ := desk.Event("bytes 1 abc")
	again, _ := desk.Event("bytes 1 abc")
	line, _ := desk.Line(e)
	clear(e.Bytes[:cap(e.Bytes)])
	if line != "bytes 1 abc" || string(again.Bytes) != "abc" {
		t.Errorf("%q, %q", line, again.Bytes)
	}
	b := []byte("x\\y")
	desk.Line(api.Event{Kind: api.EvBytes, Bytes: b})
	desk.Act(api.Act{Kind: api.AcWrite, Bytes: b})
	if string(b) != "x\\y" {
		t.Errorf("%q", b)
	}
}
