package chunked_test

import (
	"bytes"
	"math/rand"
	"slices"
	"strconv"
	"strings"
	"testing"

	"headrace/api"
	"headrace/chunked"
	"headrace/fields"
)

// 10.2: one chunk of some bytes, none of none.
func TestChunk(t *testing.T) {
	for _, b := range [][]byte{nil, {}, make([]byte, 0, 9)} {
		if c := chunked.Chunk(b); len(c) != 0 {
			t.Errorf("Chunk of nothing: %q", c)
		}
	}
	for b, want := range map[string]string{
		"a": "1\r\na\r\n", "abc": "3\r\nabc\r\n", "\r\n": "2\r\n\r\n\r\n", "0\r\n\r\n": "5\r\n0\r\n\r\n\r\n", "\x00\xff": "2\r\n\x00\xff\r\n", "0123456789": "a\r\n0123456789\r\n", "0123456789abcde": "f\r\n0123456789abcde\r\n", "0123456789abcdef": "10\r\n0123456789abcdef\r\n",
	} {
		if c := chunked.Chunk([]byte(b)); string(c) != want {
			t.Errorf("Chunk(%q): %q; want %q", b, c, want)
		}
	}
	for _, n := range []int{1, 9, 10, 15, 16, 17, 26, 31, 255, 256, 2748, 4095, 4096, 65535, 65536, api.MaxBytes, api.MaxBytes + 1} {
		b := bytes.Repeat([]byte("z"), n)
		want := strconv.FormatInt(int64(n), 16) + "\r\n" + string(b) + "\r\n"
		if c := chunked.Chunk(b); string(c) != want {
			t.Errorf("Chunk of %d bytes: %d bytes, %.20q", n, len(c), c)
		}
	}
}

func lasts(t *testing.T, l []api.Field, want string, e api.Errno) {
	t.Helper()
	if b, got := chunked.Last(l); string(b) != want || got != e || e != api.OK && b != nil {
		t.Errorf("Last(%.200q): %.200q, %v; want %.200q, %v", l, b, got, want, e)
	}
}

// 10.2: the last chunk, with trailers.
func TestLast(t *testing.T) {
	lasts(t, nil, "0\r\n\r\n", api.OK)
	lasts(t, []api.Field{}, "0\r\n\r\n", api.OK)
	lasts(t, list("A", "b"), "0\r\nA: b\r\n\r\n", api.OK)
	lasts(t, list("A", ""), "0\r\nA: \r\n\r\n", api.OK)
	lasts(t, list("b", "x y", "A", "b: c", "b", "\x80\xff"), "0\r\nb: x y\r\nA: b: c\r\nb: \x80\xff\r\n\r\n", api.OK)
	many := slices.Repeat(list("a", "b"), api.MaxFields)
	lasts(t, many, "0\r\n"+strings.Repeat("a: b\r\n", api.MaxFields)+"\r\n", api.OK)
	lasts(t, append(many, api.Field{Name: "a", Value: "b"}), "", api.ErrLong)
	// how long a trailer's line is, Check does not ask
	long := strings.Repeat("v", 2*api.MaxLine)
	lasts(t, list("a", long), "0\r\na: "+long+"\r\n\r\n", api.OK)
}

// 10.2: what is wrong with trailers, in Check's order; nothing that ends a line slips in.
func TestLastWrong(t *testing.T) {
	for _, name := range []string{"", " ", "a b", "a:", ":", "a\r\nb", "\n", "é", "(", "a\x00"} {
		lasts(t, list(name, "b"), "", api.ErrName)
		lasts(t, list(name, " "), "", api.ErrName)
		lasts(t, list("a", "b", name, "c"), "", api.ErrName)
		lasts(t, slices.Repeat(list(name, "b"), api.MaxFields+1), "", api.ErrLong)
	}
	for _, value := range []string{" ", " b", "b ", "\tb", "b\r\nc: d", "\r\n", "\n", "\r", "\x00", "b\x7f"} {
		lasts(t, list("a", value), "", api.ErrValue)
		lasts(t, list("a", "b", "c", value), "", api.ErrValue)
		lasts(t, list("a", value, "b c", ""), "", api.ErrValue)
		lasts(t, list("b c", "", "a", value), "", api.ErrName)
	}
}

// drawnTrailers are trailers, mostly right.
func drawnTrailers(r *rand.Rand) []api.Field {
	var l []api.Field
	names := []string{"A", "a", "Content-Length", "x!#$%&'*+-.^_`|~9", "Trailer", "0", "host", "A", "b c", ""}
	values := []string{"", "b", "b: c", "x\ty", "\xff\x80", ":", ";", "0", "long " + strings.Repeat("v", 300), "b", " b", "\r\n"}
	for range r.Intn(6) {
		f := api.Field{Name: names[r.Intn(8)], Value: values[r.Intn(10)]}
		if r.Intn(20) == 0 {
			f = api.Field{Name: names[r.Intn(10)], Value: values[r.Intn(12)]}
		}
		l = append(l, f)
	}
	return l
}

// 10.3 (there and back), 10.2: chunks of any pieces, and Last, are read as those pieces' bytes and those trailers.
func TestThereAndBack(t *testing.T) {
	r := rand.New(rand.NewSource(11))
	refused := 0
	for range 20000 {
		var body, text []byte
		for range r.Intn(6) {
			b := make([]byte, r.Intn(40))
			r.Read(b)
			if r.Intn(3) == 0 {
				b = []byte("0\r\n\r\n1;x\r\n"[:r.Intn(11)])
			}
			body = append(body, b...)
			text = append(text, chunked.Chunk(b)...)
		}
		l := drawnTrailers(r)
		last, e := chunked.Last(l)
		if e != fields.Check(l) {
			t.Fatalf("Last(%q): %v; Check tells %v", l, e, fields.Check(l))
		}
		if e != api.OK {
			refused++
			continue
		}
		text = append(text, last...)
		want := told{string(body), len(text), true, api.OK, l}
		if got := once(made(t, len(body)), string(text)+"behind"); !got.same(want) {
			t.Fatalf("%q: %v; want %v", text, got, want)
		}
		if got := pieces(made(t, len(body)), string(text)+"behind", func() int { return r.Intn(9) }); !got.same(want) {
			t.Fatalf("%q in pieces: %v; want %v", text, got, want)
		}
		if len(body) > 0 {
			if _, _, whole, e := made(t, len(body)-1).Feed(text); whole || e != api.ErrLong {
				t.Fatalf("%q, of one byte too many: %v, %v", text, whole, e)
			}
		}
	}
	if refused < 100 {
		t.Errorf("%d were refused alone", refused)
	}
	big := bytes.Repeat([]byte("0\r\n\r\n"), api.MaxBytes/5)
	text := string(chunked.Chunk(big)) + "0\r\n\r\n"
	feeds(t, made(t, len(big)), text, string(big), len(text), true, api.OK)
}

// 10.3: MaxFields trailers, and one whose line has MaxLine bytes, are read again.
func TestGreatTrailersBack(t *testing.T) {
	for _, l := range [][]api.Field{slices.Repeat(list("a", "b"), api.MaxFields), list("a", strings.Repeat("v", api.MaxLine-3)), list(strings.Repeat("n", api.MaxLine-2), "")} {
		b, e := chunked.Last(l)
		if e != api.OK {
			t.Fatalf("Last(%.80q): %v", l, e)
		}
		d := made(t, 0)
		feeds(t, d, string(b), "", len(b), true, api.OK)
		trails(t, d, l)
	}
}

// R3: what is handed to Chunk and to Last is neither changed nor shared, nor the room behind it; R6: the same is told again.
func TestWrittenIsNew(t *testing.T) {
	b := []byte("abcdefgh")
	one, two := chunked.Chunk(b[:3]), chunked.Chunk(b[:3])
	fill(one)
	if string(b) != "abcdefgh" || string(two) != "3\r\nabc\r\n" {
		t.Errorf("a changed chunk changed %q, %q", b, two)
	}
	fill(b)
	if string(two) != "3\r\nabc\r\n" {
		t.Errorf("a chunk shares the bytes it was made of: %q", two)
	}
	l := list("A", "b", "C", "d", "E", "f")
	x, _ := chunked.Last(l[:2])
	y, _ := chunked.Last(l[:2])
	fill(x)
	if !slices.Equal(l, list("A", "b", "C", "d", "E", "f")) || string(y) != "0\r\nA: b\r\nC: d\r\n\r\n" {
		t.Errorf("a changed last chunk changed %q, %q", l, y)
	}
	clear(l)
	if string(y) != "0\r\nA: b\r\nC: d\r\n\r\n" {
		t.Errorf("a last chunk shares the fields it was made of: %q", y)
	}
	z, _ := chunked.Last(nil)
	fill(z)
	lasts(t, nil, "0\r\n\r\n", api.OK)
}
