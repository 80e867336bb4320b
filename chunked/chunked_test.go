package chunked_test

import (
	"bytes"
	"fmt"
	"math"
	"math/big"
	"math/rand"
	"regexp"
	"slices"
	"strconv"
	"strings"
	"testing"
	"unsafe"

	"headrace/api"
	"headrace/chunked"
	"headrace/lexis"
)

// list are fields by their names and values.
func list(parts ...string) []api.Field {
	var l []api.Field
	for i := 0; i+1 < len(parts); i += 2 {
		l = append(l, api.Field{Name: parts[i], Value: parts[i+1]})
	}
	return l
}

// made is a new decoder.
func made(t *testing.T, most int) *chunked.Decoder {
	t.Helper()
	d, e := chunked.New(most)
	if d == nil || e != api.OK {
		t.Fatalf("New(%d): %v, %v", most, d, e)
	}
	return d
}

func feeds(t *testing.T, d *chunked.Decoder, b, body string, n int, whole bool, e api.Errno) {
	t.Helper()
	if gotBody, gotN, gotWhole, got := d.Feed([]byte(b)); string(gotBody) != body || gotN != n || gotWhole != whole || got != e {
		t.Errorf("Feed(%.80q): %.80q, %d, %v, %v; want %.80q, %d, %v, %v", b, gotBody, gotN, gotWhole, got, body, n, whole, e)
	}
}

func trails(t *testing.T, d *chunked.Decoder, want []api.Field) {
	t.Helper()
	if l := d.Trailers(); !slices.Equal(l, want) {
		t.Errorf("Trailers: %.200q; want %.200q", l, want)
	}
}

// reads tells that a text is a body, with its last byte and not ahead of it; what stands behind is not read.
func reads(t *testing.T, most int, text, body string, trailers ...string) {
	t.Helper()
	for _, behind := range []string{"", "behind", "\r\n", "\n", "0\r\n\r\n"} {
		d := made(t, most)
		feeds(t, d, text+behind, body, len(text), true, api.OK)
		trails(t, d, list(trailers...))
	}
	d := made(t, most)
	feeds(t, d, text[:len(text)-1], body, len(text)-1, false, api.OK)
	trails(t, d, nil)
	feeds(t, d, text[len(text)-1:]+"behind", "", 1, true, api.OK)
	trails(t, d, list(trailers...))
}

// failsAt tells that a text is refused at its last byte, not ahead of it, and that the bytes of the body ahead of it are told.
func failsAt(t *testing.T, most int, text, body string, want api.Errno) {
	t.Helper()
	for _, behind := range []string{"", "\r\n\r\n", "behind", "\n"} {
		d := made(t, most)
		feeds(t, d, text+behind, body, len(text), false, want)
		trails(t, d, nil)
	}
	d := made(t, most)
	feeds(t, d, text[:len(text)-1], body, len(text)-1, false, api.OK)
	feeds(t, d, text[len(text)-1:]+"\r\n", "", 1, false, want)
	feeds(t, d, "\r\n0\r\n\r\n", "", 0, false, want)
	trails(t, d, nil)
}

// 10.1: New takes 0 to MaxSize.
func TestNew(t *testing.T) {
	for _, most := range []int{0, 1, 2, 100, api.MaxBytes, 1 << 31, 1 << 32, lexis.MaxSize - 1, lexis.MaxSize} {
		d := made(t, most)
		feeds(t, d, "", "", 0, false, api.OK)
		trails(t, d, nil)
		feeds(t, d, "0\r\n\r\n", "", 5, true, api.OK)
	}
	for _, most := range []int{-1, -2, math.MinInt, lexis.MaxSize + 1, math.MaxInt, -lexis.MaxSize} {
		if d, e := chunked.New(most); d != nil || e != api.ErrArg {
			t.Errorf("New(%d): %v, %v", most, d, e)
		}
	}
}

// A nil decoder reads nothing; nor does one that New did not make.
func TestNilDecoder(t *testing.T) {
	for _, d := range []*chunked.Decoder{nil, {}} {
		for range 2 {
			for _, b := range []string{"", "0", "0\r\n\r\n", "1\r\na\r\n", "\n", "behind"} {
				feeds(t, d, b, "", 0, false, api.ErrState)
			}
			if b, n, whole, e := d.Feed(nil); len(b) != 0 || n != 0 || whole || e != api.ErrState {
				t.Errorf("Feed(nil) of no decoder: %q, %d, %v, %v", b, n, whole, e)
			}
			trails(t, d, nil)
		}
	}
}

// 10.1: bodies of ordinary forms.
func TestBodies(t *testing.T) {
	for _, c := range []struct {
		text, body string
		trailers   []string
	}{
		{"0\r\n\r\n", "", nil},
		{"3;x\r\nabc\r\n0\r\n\r\n", "abc", nil},
		{"3\r\nabc\r\n0\r\n\r\n", "abc", nil},
		{"1\r\na\r\n1\r\nb\r\n2\r\ncd\r\n0\r\n\r\n", "abcd", nil},
		// any bytes are a chunk's: line ends and what looks like chunks too
		{"2\r\n\r\n\r\n0\r\n\r\n", "\r\n", nil}, {"1\r\n\r\r\n0\r\n\r\n", "\r", nil}, {"1\r\n\n\r\n0\r\n\r\n", "\n", nil}, {"5\r\n0\r\n\r\n\r\n0\r\n\r\n", "0\r\n\r\n", nil}, {"3\r\n\x00\xff\x7f\r\n0\r\n\r\n", "\x00\xff\x7f", nil},
		// sizes: noughts ahead, great and small hex digits
		{"01\r\na\r\n0\r\n\r\n", "a", nil}, {"0000003\r\nabc\r\n000\r\n\r\n", "abc", nil}, {"a\r\n0123456789\r\n0\r\n\r\n", "0123456789", nil}, {"A\r\n0123456789\r\n0\r\n\r\n", "0123456789", nil}, {"0c\r\n0123456789ab\r\n0\r\n\r\n", "0123456789ab", nil},
		{"10\r\n0123456789abcdef\r\n0\r\n\r\n", "0123456789abcdef", nil}, {"1F\r\n" + strings.Repeat("z", 31) + "\r\n0\r\n\r\n", strings.Repeat("z", 31), nil}, {"fE\r\n" + strings.Repeat("y", 254) + "\r\n0\r\n\r\n", strings.Repeat("y", 254), nil},
		// what stands behind a size and its semicolon
		{"1;\r\na\r\n0;\r\n\r\n", "a", nil}, {"1;x=y;z\r\na\r\n0;last\r\n\r\n", "a", nil}, {"1; \t x \t\r\na\r\n0\r\n\r\n", "a", nil}, {"1;;\r\na\r\n0;;\r\n\r\n", "a", nil}, {"1;\"q,:\\\"\r\na\r\n0\r\n\r\n", "a", nil}, {"1;\x80\xff~!\r\na\r\n0;\xff\r\n\r\n", "a", nil}, {"1; \r\na\r\n0;\t\r\n\r\n", "a", nil},
		// trailers: blanks around values, empty values, colons in values, the same name again
		{"0\r\nA: b\r\n\r\n", "", []string{"A", "b"}}, {"1\r\nx\r\n0\r\nA:b\r\na: \r\nA:\t c\td \r\n\r\n", "x", []string{"A", "b", "a", "", "A", "c\td"}}, {"0\r\na:b:c\r\nd::\r\n\r\n", "", []string{"a", "b:c", "d", ":"}},
		{"0\r\n!#$%&'*+-.^_`|~9zZ: \x80\xff~\r\n\r\n", "", []string{"!#$%&'*+-.^_`|~9zZ", "\x80\xff~"}}, {"0\r\n0:\r\n\r\n", "", []string{"0", ""}}, {"0\r\nContent-Length: 5\r\nTransfer-Encoding: x\r\n\r\n", "", []string{"Content-Length", "5", "Transfer-Encoding", "x"}},
	} {
		reads(t, 300, c.text, c.body, c.trailers...)
		reads(t, len(c.body), c.text, c.body, c.trailers...)
	}
}

// 10.1: what is told behind a whole body, and ahead of it.
func TestBehindWhole(t *testing.T) {
	d := made(t, 9)
	feeds(t, d, "3\r", "", 2, false, api.OK)
	feeds(t, d, "", "", 0, false, api.OK)
	feeds(t, d, "\nab", "ab", 3, false, api.OK)
	trails(t, d, nil)
	feeds(t, d, "c\r\n0\r\nA: b", "c", 10, false, api.OK)
	trails(t, d, nil)
	feeds(t, d, "\r\nC: d\r\n", "", 8, false, api.OK)
	trails(t, d, nil)
	feeds(t, d, "\r", "", 1, false, api.OK)
	trails(t, d, nil)
	feeds(t, d, "\n3\r\nabc\r\n", "", 1, true, api.OK)
	for range 3 {
		for _, b := range []string{"", "x", "\n", "0\r\n\r\n", "1\r\na\r\n0\r\nX: y\r\n\r\n", strings.Repeat("a", api.MaxBytes)} {
			feeds(t, d, b, "", 0, true, api.OK)
		}
		trails(t, d, list("A", "b", "C", "d"))
	}
}

// 10.1: what is told behind an error: nothing, and that error again.
func TestBehindError(t *testing.T) {
	for _, c := range []struct {
		text, body string
		want       api.Errno
	}{
		{"g\r\n", "", api.ErrChunk}, {"\n", "", api.ErrChunk}, {"1\r\nab", "a", api.ErrChunk}, {"0\r\nA: b\r\nx\r\n", "", api.ErrChunk}, {"a\r\n", "", api.ErrLong}, {"5\r\nabcde\r\n5\r\n", "abcde", api.ErrLong},
	} {
		d := made(t, 9)
		feeds(t, d, c.text+"behind", c.body, len(c.text), false, c.want)
		for range 3 {
			for _, b := range []string{"", "\r\n", "0\r\n\r\n", "1\r\na\r\n", "\n", strings.Repeat("0", api.MaxBytes)} {
				feeds(t, d, b, "", 0, false, c.want)
			}
			trails(t, d, nil)
		}
	}
}

// What is wrong first: a byte 10 without a 13, a byte 13 without a 10, in each line.
func TestLineEnds(t *testing.T) {
	for _, c := range []struct{ ahead, body string }{
		{"", ""}, {"1", ""}, {"1;x", ""}, {"g", ""}, {"-1", ""}, {"ffffffffffffffffffff", ""}, {"a", ""}, {"0", ""}, {"1\r\na\r\n", "a"}, {"1\r\na\r\n1", "a"},
		{"0\r\n", ""}, {"0\r\nA", ""}, {"0\r\nA: b", ""}, {"0\r\n\x00", ""}, {"0\r\nA: b\r\n", ""}, {"0\r\nA: b\r\nC: d", ""},
	} {
		failsAt(t, 9, c.ahead+"\n", c.body, api.ErrChunk)
		for b := range 256 {
			if b != '\n' {
				failsAt(t, 9, c.ahead+"\r"+string([]byte{byte(b)}), c.body, api.ErrChunk)
			}
		}
	}
}

// Behind a chunk's bytes: the first byte that is not the 13, or the 10.
func TestBehindBytes(t *testing.T) {
	for _, body := range []string{"a", "abc", "\r\n", "a\r", "\n", "012345678"} {
		ahead := strconv.Itoa(len(body)) + "\r\n" + body
		for b := range 256 {
			if b != '\r' {
				failsAt(t, 9, ahead+string([]byte{byte(b)}), body, api.ErrChunk)
			}
			if b != '\n' {
				failsAt(t, 9, ahead+"\r"+string([]byte{byte(b)}), body, api.ErrChunk)
			}
		}
	}
	failsAt(t, 9, "3\r\nabcd", "abc", api.ErrChunk)
}

// A size line of another form is told at its end.
func TestSizeLinesWrong(t *testing.T) {
	for _, line := range []string{
		"", " ", "\t", "g", "-1", "+1", "1 ", " 1", "\t1", "1\t", "1 ;x", "1\t;x", ";", ";x", " ;x", "x;1", "0x1", "1.0", "1,1", "1 1", "1:", "1=", "1h", "h1", "\x001", "1\x00", "١", "1_0", "G;x", "0 ", "-0", "0x", "0g", "00 ;",
		"1;\x00", "1;x\x7f", "1;\x1fx", "1;x\x08", "0;\x00", "1; \x0b ", "1;\x0c", "0;x\x7fy",
		// more than any size may be
		"20000000000001", "fffffffffffffff", "FFFFFFFFFFFFFFFF", "10000000000000001", "ffffffffffffffffffffffffff", "0020000000000001", "80000000000000000000000000000000", "100000000000000000000000000000000000000000000000000", "20000000000001;x", strings.Repeat("f", api.MaxLine),
	} {
		for _, most := range []int{0, 9, lexis.MaxSize} {
			failsAt(t, most, line+"\r\n", "", api.ErrChunk)
		}
		failsAt(t, 9, "3\r\nabc\r\n"+line+"\r\n", "abc", api.ErrChunk)
		failsAt(t, 9, "9\r\nabcdefghi\r\n"+line+"\r\n", "abcdefghi", api.ErrChunk)
	}
}

// Each byte as a digit of a size, and behind its semicolon.
func TestSizeLineBytes(t *testing.T) {
	for c := range 256 {
		b := string([]byte{byte(c)})
		if c == '\r' || c == '\n' {
			continue
		}
		if n, err := strconv.ParseUint(b, 16, 8); c < 128 && err == nil {
			body := strings.Repeat("x", int(n))
			if n > 0 {
				reads(t, 15, b+"\r\n"+body+"\r\n0\r\n\r\n", body)
			}
			reads(t, 16+15, "1"+b+"\r\n"+body+strings.Repeat("y", 16)+"\r\n0\r\n\r\n", body+strings.Repeat("y", 16))
		} else {
			failsAt(t, 999, b+"\r\n", "", api.ErrChunk)
			failsAt(t, 999, b+"1\r\n", "", api.ErrChunk)
			if c != ';' {
				failsAt(t, 999, "1"+b+"\r\n", "", api.ErrChunk)
				failsAt(t, 999, "0"+b+"\r\n", "", api.ErrChunk)
				failsAt(t, 999, "0"+b+";\r\n", "", api.ErrChunk)
			}
		}
		for _, extension := range []string{b, b + "x", "x" + b, "x" + b + "x"} {
			if c == 9 || c >= 32 && c != 127 {
				reads(t, 1, "1;"+extension+"\r\na\r\n0;"+extension+"\r\n\r\n", "a")
				continue
			}
			failsAt(t, 9, "1;"+extension+"\r\n", "", api.ErrChunk)
			failsAt(t, 9, "0;"+extension+"\r\n", "", api.ErrChunk)
		}
	}
}

// A trailer of another form is told at its end.
func TestTrailersWrong(t *testing.T) {
	for _, line := range []string{
		" ", "\t", "a", "a b", " a: b", "\ta: b", "a : b", "a\t: b", ":", ": b", "::", "a b: c", "(: b", "é: b", "a\x00: b", "\x00: b", "a/b: c", "a;b: c", "a=b", "a;b",
		"a: \x00", "a: b\x7f", "a:\x1f", "a: b\x08c", "a: \x0b", "a:\x0c", "a: b : \x01",
	} {
		failsAt(t, 9, "0\r\n"+line+"\r\n", "", api.ErrChunk)
		failsAt(t, 9, "1\r\nx\r\n0\r\nA: b\r\n"+line+"\r\n", "x", api.ErrChunk)
	}
}

// Each byte in a trailer's name and value.
func TestTrailerBytes(t *testing.T) {
	token := regexp.MustCompile("^[A-Za-z0-9!#$%&'*+.^_`|~-]$")
	for c := range 256 {
		b := string([]byte{byte(c)})
		if c == '\r' || c == '\n' {
			continue
		}
		for _, name := range []string{b, b + "a", "a" + b + "a", "a" + b} {
			text := "0\r\n" + name + ": x\r\n"
			switch {
			case c < 128 && token.MatchString(b):
				reads(t, 0, text+"\r\n", "", name, "x")
			case c == ':' && name[0] == 'a':
				reads(t, 0, text+"\r\n", "", "a", name[2:]+": x")
			default:
				failsAt(t, 0, text, "", api.ErrChunk)
			}
		}
		for _, value := range []string{b, b + "x", "x" + b, "x" + b + "x"} {
			text := "0\r\na:" + value + "\r\n"
			if c == 9 || c >= 32 && c != 127 {
				reads(t, 0, text+"\r\n", "", "a", strings.Trim(value, "\t "))
				continue
			}
			failsAt(t, 0, text, "", api.ErrChunk)
		}
	}
}

// A body of no bytes, of the most it may have, and of one more: in one chunk and in many.
func TestMost(t *testing.T) {
	for most := range 20 {
		body := strings.Repeat("x", most)
		if most > 0 {
			size := strconv.FormatInt(int64(most), 16)
			reads(t, most, size+"\r\n"+body+"\r\n0\r\n\r\n", body)
			reads(t, most, "000"+size+";x\r\n"+body+"\r\n0\r\n\r\n", body)
			failsAt(t, most-1, size+"\r\n", "", api.ErrLong)
			failsAt(t, most-1, "00"+strings.ToUpper(size)+";x\r\n", "", api.ErrLong)
			failsAt(t, most, size+"\r\n"+body+"\r\n"+size+"\r\n", body, api.ErrLong)
		}
		ones := strings.Repeat("1\r\nx\r\n", most)
		reads(t, most, ones+"0\r\n\r\n", body)
		reads(t, most+1, ones+"0\r\n\r\n", body)
		failsAt(t, most, ones+"1\r\n", body, api.ErrLong)
		failsAt(t, most, ones+"20000000000000\r\n", body, api.ErrLong)
		failsAt(t, most, ones+"1 \r\n", body, api.ErrChunk) // its form comes first
		failsAt(t, most, ones+"2;\x00\r\n", body, api.ErrChunk)
		failsAt(t, most, ones+"1\n", body, api.ErrChunk)
		failsAt(t, most, ones+"1\r\r", body, api.ErrChunk)
	}
	failsAt(t, 9, "a\r\n", "", api.ErrLong)
	failsAt(t, 9, "9\r\nabcdefghi\r\n0001\r\n", "abcdefghi", api.ErrLong)
	failsAt(t, 9, "5\r\nabcde\r\n5\r\n", "abcde", api.ErrLong)
	reads(t, 9, "5\r\nabcde\r\n4\r\nfghi\r\n0\r\n\r\n", "abcdefghi")
}

// Sizes up to the greatest one are taken, if a body may have so many bytes.
func TestGreatSizes(t *testing.T) {
	for _, c := range []struct {
		most int
		line string
		e    api.Errno
	}{
		{lexis.MaxSize, "20000000000000", api.OK}, {lexis.MaxSize, "1fffffffffffff", api.OK}, {lexis.MaxSize - 1, "1FFFFFFFFFFFFF", api.OK}, {lexis.MaxSize - 1, "20000000000000", api.ErrLong},
		{lexis.MaxSize, "20000000000001", api.ErrChunk}, {1 << 32, "100000000", api.OK}, {1 << 32, "100000001", api.ErrLong}, {0, "20000000000000", api.ErrLong}, {1<<31 - 1, "80000000", api.ErrLong},
	} {
		feeds(t, made(t, c.most), c.line+"\r\n", "", len(c.line)+2, false, c.e)
	}
	d := made(t, lexis.MaxSize)
	feeds(t, d, "1fffffffffffff\r\nabc", "abc", 19, false, api.OK)
	feeds(t, d, "\r\n0\r\n\r\n", "\r\n0\r\n\r\n", 7, false, api.OK)
	feeds(t, made(t, lexis.MaxSize), "1\r\na\r\n20000000000000\r\n", "a", 22, false, api.ErrLong)
	feeds(t, made(t, lexis.MaxSize), "1\r\na\r\n1fffffffffffff\r\nb", "ab", 23, false, api.OK)
}

// A line of MaxLine bytes, and of one more: each kind of line.
func TestMaxLine(t *testing.T) {
	for _, c := range []struct{ ahead, begin, fill, end, behind, body string }{
		{"", "", "0", "3", "abc\r\n0\r\n\r\n", "abc"}, {"", "3;", "x", "", "abc\r\n0\r\n\r\n", "abc"}, {"1\r\na\r\n", "2;", " ", " ", "bc\r\n0\r\n\r\n", "abc"}, {"1\r\na\r\n", "", "0", "", "\r\n", "a"}, {"", "0;", "\xff", ";", "\r\n", ""},
		{"0\r\n", "a: ", "x", "", "\r\n", ""}, {"0\r\n", "a", "x", ":", "\r\n", ""}, {"0\r\nA: b\r\n", "a:", " ", "", "\r\n", ""},
	} {
		fill := strings.Repeat(c.fill, api.MaxLine-len(c.begin)-len(c.end))
		line := c.begin + fill + c.end
		d := made(t, 9)
		text := c.ahead + line + "\r\n" + c.behind
		feeds(t, d, text, c.body, len(text), true, api.OK)
		ahead := c.body[:min(len(c.body), len(c.ahead)/6)] // what is read of the body when the line comes
		long := c.ahead + c.begin + c.fill + fill + c.end
		failsAt(t, 9, long[:len(c.ahead)+api.MaxLine+1], ahead, api.ErrChunk)
		feeds(t, made(t, 9), long+"\r\n"+c.behind, ahead, len(c.ahead)+api.MaxLine+1, false, api.ErrChunk)
		// a line's end is not of its bytes
		failsAt(t, 9, c.ahead+line+"\n", ahead, api.ErrChunk)
		failsAt(t, 9, c.ahead+line+"\rx", ahead, api.ErrChunk)
		failsAt(t, 9, c.ahead+line+"\r\r", ahead, api.ErrChunk)
	}
	// what else is wrong with a line is told at its end: by then it is too long
	for _, b := range []string{"g", " ", "\x00", "f"} {
		failsAt(t, 9, strings.Repeat(b, api.MaxLine+1), "", api.ErrChunk)
		failsAt(t, 9, strings.Repeat(b, api.MaxLine)+"\r\n", "", api.ErrChunk)
		failsAt(t, 9, "0\r\n"+strings.Repeat(b, api.MaxLine+1), "", api.ErrChunk)
		failsAt(t, 9, "0\r\n"+strings.Repeat(b, api.MaxLine)+"\r\n", "", api.ErrChunk)
	}
	failsAt(t, 9, strings.Repeat("0", api.MaxLine-1)+"a\r\n", "", api.ErrLong)
	// a body's lines are many: each has its own bytes
	text := strings.Repeat("1;"+strings.Repeat("x", 5000)+"\r\na\r\n", 9) + "0\r\n" + strings.Repeat("a: "+strings.Repeat("b", 5000)+"\r\n", 9) + "\r\n"
	feeds(t, made(t, 9), text, strings.Repeat("a", 9), len(text), true, api.OK)
}

// No trailers, MaxFields of them, and one more.
func TestMaxFields(t *testing.T) {
	for n := range api.MaxFields + 1 {
		var text strings.Builder
		var want []string
		for i := range n {
			text.WriteString("n" + strconv.Itoa(i) + ": v\r\n")
			want = append(want, "n"+strconv.Itoa(i), "v")
		}
		reads(t, 0, "0\r\n"+text.String()+"\r\n", "", want...)
		if n == api.MaxFields {
			failsAt(t, 0, "0\r\n"+text.String()+"a: b\r\n", "", api.ErrChunk)
			failsAt(t, 0, "0\r\n"+text.String()+"a:\r\n", "", api.ErrChunk)
			failsAt(t, 0, "0\r\n"+text.String()+"a\r\n", "", api.ErrChunk)
		}
	}
}

// told is what a decoder told of a text, fed in however many pieces.
type told struct {
	body     string
	n        int
	whole    bool
	e        api.Errno
	trailers []api.Field
}

// String is a reading in words.
func (a told) String() string {
	return fmt.Sprintf("%q, %d, %v, %v, %q", a.body, a.n, a.whole, a.e, a.trailers)
}

// same tells whether two readings are the same.
func (a told) same(b told) bool {
	return a.body == b.body && a.n == b.n && a.whole == b.whole && a.e == b.e && slices.Equal(a.trailers, b.trailers)
}

// pieces feeds a text in pieces whose sizes are told, and tells what all of them tell together.
func pieces(d *chunked.Decoder, text string, size func() int) told {
	var all told
	for {
		n := min(size(), len(text)-all.n)
		body, read, whole, e := d.Feed([]byte(text[all.n : all.n+n]))
		all.body += string(body)
		all.n += read
		all.whole, all.e, all.trailers = whole, e, d.Trailers()
		if whole || e != api.OK || all.n == len(text) {
			return all
		}
	}
}

// once feeds a text at once.
func once(d *chunked.Decoder, text string) told {
	body, n, whole, e := d.Feed([]byte(text))
	return told{string(body), n, whole, e, d.Trailers()}
}

// 10.4 (P3): pieces of every size, and empty ones between.
func TestPieces(t *testing.T) {
	for _, text := range []string{
		"3;x\r\nabc\r\n0a;y\r\n0123456789\r\n0\r\nA: b\r\nC:\td \r\n\r\nbehind",
		"0\r\n\r\n", "0\r\nA: b\r\n\r\n\r\n", "1\r\na\r\n2\r\n\r\n\r\n1\r\n\n\r\n0;\r\n\r\n", "3\r\nabc\r\n0\r\nA: b\r\n C\r\n\r\n", "3\r\nabcd\r\n0\r\n\r\n", "3\r\nabc\r\r\n", "3\r\nabc\rx0\r\n\r\n", "3\r\nabc\n0\r\n\r\n",
		"3\r\nabc\r\ng\r\n", "3\r\nabc\r\n20\r\nx", "2\r\nab\r\n3\r\nab", "2\r\nab\r\n3\r\n", "1\r", "\r\n", "0\r\n\n", "0\r\n\rx", "5\r\nabcde\r\n0\r\na\nb: c\r\n\r\n",
	} {
		for _, most := range []int{0, 3, 13, 1000} {
			want := once(made(t, most), text)
			for size := 1; size <= len(text); size++ {
				for _, empty := range []int{0, 1, 3} {
					turn := 0
					got := pieces(made(t, most), text, func() int {
						if turn++; empty > 0 && turn%(empty+1) != 0 {
							return 0
						}
						return size
					})
					if !got.same(want) {
						t.Fatalf("%q in pieces of %d: %v; want %v", text, size, got, want)
					}
				}
			}
			for i := range len(text) { // parted in three
				for j := i; j < len(text); j++ {
					sizes := []int{i, j - i, len(text)}
					got := pieces(made(t, most), text, func() int {
						size := sizes[0]
						sizes = sizes[1:]
						return size
					})
					if !got.same(want) {
						t.Fatalf("%q parted at %d and %d: %v; want %v", text, i, j, got, want)
					}
				}
			}
		}
	}
}

const (
	seen  = `[!-~\x{80}-\x{10ffff}]`
	shown = `[\t -~\x{80}-\x{10ffff}]`
)

var (
	sizeForm    = regexp.MustCompile("^([0-9a-fA-F]+)(?:;" + shown + "*)?$")
	trailerForm = regexp.MustCompile("^([A-Za-z0-9!#$%&'*+.^_`|~-]+):[\t ]*((?:" + seen + "(?:" + shown + "*" + seen + ")?)?)[\t ]*$")
)

// modelLine is the line with which a text begins, how many bytes of the text were read, whether it ended and whether it is wrong.
func modelLine(text string) (line string, n int, ended, wrong bool) {
	i := strings.IndexAny(text, "\r\n")
	switch {
	case i > api.MaxLine, i < 0 && len(text) > api.MaxLine:
		return "", api.MaxLine + 1, false, true
	case i < 0:
		return "", len(text), false, false
	case text[i] == '\n':
		return "", i + 1, false, true
	case i+1 == len(text):
		return "", i + 1, false, false
	case text[i+1] != '\n':
		return "", i + 2, false, true
	}
	return text[:i], i + 2, true, false
}

// model is what a decoder is to tell of a text, found by looking at the whole of it.
func model(most int, text string) told {
	var body []byte
	var trailers []api.Field
	at, room, last := 0, big.NewInt(int64(most)), false
	ends := func(e api.Errno) told { return told{body: string(body), n: at, e: e} }
	for {
		line, n, ended, wrong := modelLine(text[at:])
		at += n
		switch {
		case wrong:
			return ends(api.ErrChunk)
		case !ended:
			return ends(api.OK)
		case last && line == "":
			return told{string(body), at, true, api.OK, trailers}
		}
		form := sizeForm
		if last {
			form = trailerForm
		}
		m := form.FindStringSubmatch(line)
		if m == nil || len(trailers) == api.MaxFields {
			return ends(api.ErrChunk)
		}
		if last {
			trailers = append(trailers, api.Field{Name: m[1], Value: m[2]})
			continue
		}
		size, _ := new(big.Int).SetString(m[1], 16)
		switch {
		case size.Cmp(big.NewInt(lexis.MaxSize)) > 0:
			return ends(api.ErrChunk)
		case size.Cmp(room) > 0:
			return ends(api.ErrLong)
		case size.Sign() == 0:
			last = true
			continue
		}
		room.Sub(room, size)
		got := min(int(size.Int64()), len(text)-at)
		body = append(body, text[at:at+got]...)
		at += got
		for _, c := range []byte("\r\n") {
			if at == len(text) {
				return ends(api.OK)
			}
			if at++; text[at-1] != c {
				return ends(api.ErrChunk)
			}
		}
	}
}

// 10.1, 10.4: all short texts of some bytes, behind several beginnings, at once and byte by byte.
func TestShortTexts(t *testing.T) {
	letters := "01;\r\n: a"
	for _, ahead := range []string{"", "2\r\n\r", "1\r\na\r\n0\r\n", "0\r\na:b\r", "0\r\na"} {
		for n := range 6 {
			total := 1
			for range n {
				total *= len(letters)
			}
			for k := range total {
				b := []byte(ahead)
				for range n {
					b = append(b, letters[k%len(letters)])
					k /= len(letters)
				}
				want := model(17, string(b))
				if got := once(made(t, 17), string(b)); !got.same(want) {
					t.Fatalf("%q: %v; want %v", b, got, want)
				}
				if got := pieces(made(t, 17), string(b), func() int { return 1 }); !got.same(want) {
					t.Fatalf("%q byte by byte: %v; want %v", b, got, want)
				}
			}
		}
	}
}

// drawn is a text that is nearly a body in chunks.
func drawn(r *rand.Rand) string {
	near := func(l []string, right int) string { // mostly one of those that are right
		if r.Intn(25) > 0 {
			return l[r.Intn(right)]
		}
		return l[r.Intn(len(l))]
	}
	end := func() string { return near([]string{"\r\n", "\n", "\r", "\r\r\n", "\n\r", ""}, 1) }
	extensions := []string{"", "", "", ";", ";x", "; a=\"b;c\" ", ";\xff", " ", ";\x00", " ;x", "x"}
	lines := []string{"A: b", "a:b", "a:", "X:\t y ", "a: b: c", "b: \xff", "é: b", "a : b", " a", "a", ": b", "a: \x01", "\t"}
	var b strings.Builder
	for range r.Intn(5) {
		body := make([]byte, 1+r.Intn(20))
		r.Read(body)
		size := strconv.FormatInt(int64(len(body)), 16)
		if r.Intn(30) == 0 {
			size = []string{"", "x", "-1", "ffffffffffffffffff", "3e8", "1f", "20000000000000"}[r.Intn(7)]
		}
		if r.Intn(4) == 0 {
			size = "0" + strings.ToUpper(size)
		}
		b.WriteString(size + near(extensions, 7) + end() + string(body) + end())
	}
	b.WriteString(near([]string{"0", "000", "", "00000000000000000000000"}, 2) + near(extensions, 7) + end())
	for range r.Intn(4) {
		b.WriteString(near(lines, 6) + end())
	}
	b.WriteString(end())
	text := []byte(b.String() + []string{"", "behind", "\r\n"}[r.Intn(3)])
	if r.Intn(6) == 0 && len(text) > 0 {
		text[r.Intn(len(text))] = byte(r.Intn(256))
	}
	return string(text[:len(text)-r.Intn(2)*r.Intn(len(text)+1)*r.Intn(2)])
}

// 10.1, 10.4: texts that are drawn, in pieces that are drawn, held against the model.
func TestModel(t *testing.T) {
	r := rand.New(rand.NewSource(10))
	met := map[api.Errno]int{}
	whole := 0
	for range 60000 {
		text, most := drawn(r), r.Intn(90)
		want := model(most, text)
		if got := pieces(made(t, most), text, func() int { return r.Intn(9) }); !got.same(want) {
			t.Fatalf("Feed(%d, %q) in pieces: %v; want %v", most, text, got, want)
		}
		if got := once(made(t, most), text); !got.same(want) {
			t.Fatalf("Feed(%d, %q): %v; want %v", most, text, got, want)
		}
		met[want.e]++
		if want.whole {
			whole++
		}
	}
	if met[api.OK] < 1000 || met[api.ErrChunk] < 1000 || met[api.ErrLong] < 1000 || whole < 1000 {
		t.Errorf("met: %v; whole: %d", met, whole)
	}
}

// R3: what is fed is neither changed nor kept, nor the room behind it.
func TestFedIsNotKept(t *testing.T) {
	text := "3;x\r\nabc\r\n5\r\ndefgh\r\n0\r\nName: value\r\nOther: more\r\n\r\nbehind"
	for size := 1; size <= len(text); size++ {
		d := made(t, 100)
		var body []byte
		for at := 0; at < len(text); at += size {
			b := []byte(text)
			got, _, _, e := d.Feed(b[at:min(at+size, len(text))])
			if string(b) != text || e != api.OK {
				t.Fatalf("Feed changed what was fed: %q, %v", b, e)
			}
			was := string(got)
			for i := range b {
				b[i] = '#'
			}
			if string(got) != was {
				t.Fatalf("what Feed told shares what was fed: %q; was %q", got, was)
			}
			body = append(body, got...)
		}
		if string(body) != "abcdefgh" {
			t.Fatalf("the body, in pieces of %d that were changed: %q", size, body)
		}
		trails(t, d, list("Name", "value", "Other", "more"))
	}
}

// R3: what Feed tells shares nothing with what is fed, with what is kept or with another answer, spare room too.
func TestToldIsNew(t *testing.T) {
	fed := []byte("4\r\nabcd\r\n3\r\nefg\r\n6\r\nhij")
	was := string(fed)
	d := made(t, 100)
	one, _, _, _ := d.Feed(fed)
	two, _, _, _ := d.Feed([]byte("klm\r\n0\r\nNa"))
	fill(one)
	if string(fed) != was || string(two) != "klm" {
		t.Errorf("a changed answer changed %q, %q", fed, two)
	}
	three, _, _, _ := d.Feed([]byte("me: value\r\n\r\n"))
	fill(two)
	fill(three)
	trails(t, d, list("Name", "value"))
}

// fill changes bytes, and the room behind them.
func fill(b []byte) {
	b = b[:cap(b)]
	for i := range b {
		b[i] = '#'
	}
}

// R3: what Trailers tells shares nothing with what is kept, nor with another answer.
func TestTrailersAreNew(t *testing.T) {
	d := made(t, 0)
	feeds(t, d, "0\r\nName: value\r\nOther: more\r\nx: y\r\n\r\n", "", 37, true, api.OK)
	want := list("Name", "value", "Other", "more", "x", "y")
	a, b := d.Trailers(), d.Trailers()
	for i := range a {
		for j := range b {
			for _, x := range []string{a[i].Name, a[i].Value} {
				for _, y := range []string{b[j].Name, b[j].Value} {
					if shares(x, y) {
						t.Errorf("two answers share %q and %q", x, y)
					}
				}
			}
		}
	}
	a = a[:cap(a)]
	for i := range a {
		a[i] = api.Field{Name: "changed", Value: "changed"}
	}
	if !slices.Equal(b, want) {
		t.Errorf("a changed answer changed another: %q", b)
	}
	trails(t, d, want)
}

// shares tells whether two texts share memory.
func shares(a, b string) bool {
	if a == "" || b == "" {
		return false
	}
	x, y := uintptr(unsafe.Pointer(unsafe.StringData(a))), uintptr(unsafe.Pointer(unsafe.StringData(b)))
	return x < y+uintptr(len(b)) && y < x+uintptr(len(a))
}

// R6: decoders do not know of one another, and the same bytes tell the same.
func TestDecodersApart(t *testing.T) {
	for range 3 {
		a, b := made(t, 9), made(t, 2)
		feeds(t, a, "3\r\nab", "ab", 5, false, api.OK)
		feeds(t, b, "2\r\nx", "x", 4, false, api.OK)
		feeds(t, a, "c\r\n0\r\nA: b\r\n\r", "c", 13, false, api.OK)
		feeds(t, b, "y\r\n1\r\n", "y", 6, false, api.ErrLong)
		feeds(t, a, "\n", "", 1, true, api.OK)
		trails(t, a, list("A", "b"))
		trails(t, b, nil)
	}
}

// P1: a decoder that is copied in the midst of a body ends too, whatever it tells.
func TestCopyEnds(t *testing.T) {
	text := "3;x\r\nabc\r\n0\r\nA: b\r\n\r\n3\r\n"
	for i := range len(text) {
		d := made(t, 9)
		d.Feed([]byte(text[:i]))
		other := *d
		d.Feed([]byte(text[i:]))
		other.Feed([]byte(text[i:]))
		other.Feed([]byte(text))
		other.Trailers()
	}
}

// P1: long texts, and texts of any bytes, end.
func TestAnyBytes(t *testing.T) {
	for _, b := range []string{"a", "0", " ", "\r\n", "\n", "\r", "\x00", ":", "a: b\r\n", "\xff", "1\r\n", "1\r\na\r\n", "0\r\n", ";", "f"} {
		long := strings.Repeat(b, api.MaxBytes/len(b))
		for _, ahead := range []string{"", "0\r\n", "1;", "100000\r\n", "0\r\na:"} {
			for _, most := range []int{0, 100, api.MaxBytes, lexis.MaxSize} {
				text := ahead + long
				if got, want := once(made(t, most), text), model(most, text); !got.same(want) {
					t.Errorf("Feed(%d, %q and many %q): %d, %v, %v; want %d, %v, %v", most, ahead, b, got.n, got.whole, got.e, want.n, want.whole, want.e)
				}
			}
		}
	}
	r := rand.New(rand.NewSource(1))
	for range 30000 {
		b := make([]byte, r.Intn(40))
		r.Read(b)
		for i := range b {
			if r.Intn(3) > 0 {
				b[i] = "\r\n: \t012af;"[r.Intn(11)]
			}
		}
		want := model(5, string(b))
		if got := once(made(t, 5), string(b)); !got.same(want) {
			t.Fatalf("Feed(%q): %v; want %v", b, got, want)
		}
	}
	big := bytes.Repeat([]byte("x"), 8*api.MaxBytes)
	d := made(t, len(big))
	feeds(t, d, "800000\r\n", "", 8, false, api.OK)
	feeds(t, d, string(big), string(big), len(big), false, api.OK)
	feeds(t, d, "\r\n0\r\n\r\n", "", 7, true, api.OK)
}
