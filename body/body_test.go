package body_test

import (
	"bytes"
	"fmt"
	"math"
	"math/rand"
	"slices"
	"strings"
	"testing"
	"unsafe"

	"headrace/api"
	"headrace/body"
	"headrace/chunked"
	"headrace/lexis"
)

var (
	none    = api.Framing{Kind: api.FrNone}
	inParts = api.Framing{Kind: api.FrChunked}
	toClose = api.Framing{Kind: api.FrClose}
)

// length is a framing of a length.
func length(n int) api.Framing { return api.Framing{Kind: api.FrLength, Length: n} }

// made is a new reader.
func made(t *testing.T, f api.Framing, most int) *body.Reader {
	t.Helper()
	r, e := body.New(f, most)
	if r == nil || e != api.OK {
		t.Fatalf("New(%+v, %d): %v, %v", f, most, r, e)
	}
	return r
}

func newFails(t *testing.T, f api.Framing, most int, want api.Errno) {
	t.Helper()
	if r, e := body.New(f, most); r != nil || e != want {
		t.Errorf("New(%+v, %d): %v, %v; want %v", f, most, r, e, want)
	}
}

func feeds(t *testing.T, r *body.Reader, b, want string, n int, whole bool, e api.Errno) {
	t.Helper()
	before := r.Got()
	if got, gotN, gotWhole, gotE := r.Feed([]byte(b)); string(got) != want || gotN != n || gotWhole != whole || gotE != e {
		t.Errorf("Feed(%.80q): %.80q, %d, %v, %v; want %.80q, %d, %v, %v", b, got, gotN, gotWhole, gotE, want, n, whole, e)
	}
	stands(t, r, before+len(want), whole)
}

func ends(t *testing.T, r *body.Reader, whole bool, e api.Errno) {
	t.Helper()
	before := r.Got()
	if got, gotE := r.End(); got != whole || gotE != e {
		t.Errorf("End: %v, %v; want %v, %v", got, gotE, whole, e)
	}
	stands(t, r, before, whole)
}

// stands tells how much a reader got and whether its body is whole; to ask changes nothing.
func stands(t *testing.T, r *body.Reader, got int, whole bool) {
	t.Helper()
	for range 2 {
		if r.Got() != got || r.Whole() != whole {
			t.Errorf("Got %d, Whole %v; want %d, %v", r.Got(), r.Whole(), got, whole)
		}
	}
}

// stays tells that a reader's body is over: nothing more is read, and no end changes that.
func stays(t *testing.T, r *body.Reader, whole bool, e api.Errno) {
	t.Helper()
	for range 2 {
		for _, b := range []string{"", "x", "\r\n", "0\r\n\r\n", "1\r\na\r\n0\r\n\r\n", strings.Repeat("y", 5000)} {
			feeds(t, r, b, "", 0, whole, e)
		}
		ends(t, r, whole, e)
	}
}

// 11.1: the four framings with the bounds that they may have.
func TestNew(t *testing.T) {
	for _, most := range []int{0, 1, 2, 9, api.MaxBytes, 1 << 32, lexis.MaxSize - 1, lexis.MaxSize} {
		for _, keep := range []bool{false, true} {
			for _, kind := range []int{api.FrNone, api.FrChunked, api.FrClose} {
				stands(t, made(t, api.Framing{Kind: kind, Keep: keep}, most), 0, kind == api.FrNone)
			}
			for _, n := range []int{0, 1, most / 2, most - 1, most} {
				if n >= 0 && n <= most {
					stands(t, made(t, api.Framing{Kind: api.FrLength, Length: n, Keep: keep}, most), 0, n == 0)
				}
			}
		}
	}
}

// 11.1: arguments that are wrong by themselves come ahead of a length that is too great.
func TestNewWrong(t *testing.T) {
	for _, most := range []int{0, 9, lexis.MaxSize, -1, lexis.MaxSize + 1} {
		for _, kind := range []int{0, 5, -1, 6, 100, math.MinInt, math.MaxInt} {
			for _, n := range []int{0, 1, -1} {
				newFails(t, api.Framing{Kind: kind, Length: n}, most, api.ErrArg)
				newFails(t, api.Framing{Kind: kind, Length: n, Keep: true}, most, api.ErrArg)
			}
		}
		for _, kind := range []int{api.FrNone, api.FrChunked, api.FrClose} { // a length beside a framing that has none
			for _, n := range []int{1, 9, 10, -1, lexis.MaxSize, lexis.MaxSize + 1, math.MinInt, math.MaxInt} {
				newFails(t, api.Framing{Kind: kind, Length: n}, most, api.ErrArg)
			}
		}
		for _, n := range []int{-1, -9, math.MinInt, lexis.MaxSize + 1, math.MaxInt} {
			newFails(t, length(n), most, api.ErrArg)
		}
	}
	for _, most := range []int{-1, -2, math.MinInt, lexis.MaxSize + 1, math.MaxInt, -lexis.MaxSize} {
		for _, f := range []api.Framing{none, inParts, toClose, length(0), length(1), length(lexis.MaxSize)} {
			newFails(t, f, most, api.ErrArg)
		}
	}
	newFails(t, api.Framing{}, 0, api.ErrArg)
}

// 11.1: a length of most, and of one more.
func TestNewLong(t *testing.T) {
	for _, most := range []int{0, 1, 2, 9, 1 << 31, 1 << 32, lexis.MaxSize - 1} {
		stands(t, made(t, length(most), most), 0, most == 0)
		newFails(t, length(most+1), most, api.ErrLong)
		newFails(t, length(lexis.MaxSize), most, api.ErrLong)
		newFails(t, api.Framing{Kind: api.FrLength, Length: most + 1, Keep: true}, most, api.ErrLong)
	}
	made(t, length(lexis.MaxSize), lexis.MaxSize)
}

// A nil reader reads nothing and is not whole; nor is one that New did not make.
func TestNilReader(t *testing.T) {
	for _, r := range []*body.Reader{nil, {}} {
		stays(t, r, false, api.ErrState)
		if b, n, whole, e := r.Feed(nil); len(b) != 0 || n != 0 || whole || e != api.ErrState {
			t.Errorf("Feed(nil) of no reader: %q, %d, %v, %v", b, n, whole, e)
		}
	}
}

// 11.2, 11.3: FrNone is whole at once.
func TestNone(t *testing.T) {
	for _, most := range []int{0, 9, lexis.MaxSize} {
		stands(t, made(t, none, most), 0, true)
		stays(t, made(t, none, most), true, api.OK)
		r := made(t, none, most)
		ends(t, r, true, api.OK)
		stays(t, r, true, api.OK)
	}
}

// 11.2: FrLength is whole when that many bytes were read, with the last of them; what stands behind is not read.
func TestLength(t *testing.T) {
	stays(t, made(t, length(0), 0), true, api.OK)
	stays(t, made(t, length(0), 9), true, api.OK)
	for _, text := range []string{"a", "ab", "\r\n", "0\r\n\r\n", "\x00\xff\n", strings.Repeat("z", 5000)} {
		for _, most := range []int{len(text), len(text) + 1, lexis.MaxSize} {
			for _, behind := range []string{"", "x", "\r\n", text} {
				r := made(t, length(len(text)), most)
				feeds(t, r, "", "", 0, false, api.OK)
				feeds(t, r, text+behind, text, len(text), true, api.OK)
				stays(t, r, true, api.OK)
				r = made(t, length(len(text)), most)
				feeds(t, r, text[:len(text)-1], text[:len(text)-1], len(text)-1, false, api.OK)
				feeds(t, r, "", "", 0, false, api.OK)
				feeds(t, r, text[len(text)-1:]+behind, text[len(text)-1:], 1, true, api.OK)
				stays(t, r, true, api.OK)
			}
		}
	}
	r := made(t, length(lexis.MaxSize), lexis.MaxSize)
	feeds(t, r, "abc", "abc", 3, false, api.OK)
	feeds(t, r, strings.Repeat("d", api.MaxBytes), strings.Repeat("d", api.MaxBytes), api.MaxBytes, false, api.OK)
	ends(t, r, false, api.ErrCut)
}

// 11.2: FrChunked is whole when its chunks are; Got counts the body's bytes alone.
func TestChunked(t *testing.T) {
	for _, c := range []struct{ text, body string }{
		{"0\r\n\r\n", ""}, {"3;x\r\nabc\r\n0\r\n\r\n", "abc"}, {"1\r\na\r\n2\r\n\r\n\r\n0\r\nA: b\r\nC: d\r\n\r\n", "a\r\n"}, {"5\r\n0\r\n\r\n\r\n00;y\r\nX:\r\n\r\n", "0\r\n\r\n"},
	} {
		for _, most := range []int{len(c.body), len(c.body) + 1, lexis.MaxSize} {
			for _, behind := range []string{"", "x", "\r\n", "0\r\n\r\n"} {
				r := made(t, inParts, most)
				feeds(t, r, "", "", 0, false, api.OK)
				feeds(t, r, c.text+behind, c.body, len(c.text), true, api.OK)
				stays(t, r, true, api.OK)
				r = made(t, inParts, most)
				feeds(t, r, c.text[:len(c.text)-1], c.body, len(c.text)-1, false, api.OK)
				feeds(t, r, c.text[len(c.text)-1:]+behind, "", 1, true, api.OK)
				stays(t, r, true, api.OK)
			}
		}
	}
}

// 11.2: what is wrong with chunks is told as the decoder tells it, at its byte, with what was read ahead of it.
func TestChunkedWrong(t *testing.T) {
	for _, c := range []struct {
		text, body string
		want       api.Errno
	}{
		{"g\r\n", "", api.ErrChunk}, {"\n", "", api.ErrChunk}, {"3\r\nabcd", "abc", api.ErrChunk}, {"1\r\na\r\n0\r\nx\r\n", "a", api.ErrChunk}, {"20000000000001\r\n", "", api.ErrChunk},
		{"a\r\n", "", api.ErrLong}, {"9\r\nabcdefghi\r\n1\r\n", "abcdefghi", api.ErrLong}, {"20000000000000\r\n", "", api.ErrLong},
	} {
		r := made(t, inParts, 9)
		feeds(t, r, c.text+"\r\n0\r\n\r\n", c.body, len(c.text), false, c.want)
		stays(t, r, false, c.want)
		r = made(t, inParts, 9)
		feeds(t, r, c.text[:len(c.text)-1], c.body, len(c.text)-1, false, api.OK)
		feeds(t, r, c.text[len(c.text)-1:]+"x", "", 1, false, c.want)
		stays(t, r, false, c.want)
	}
	for most := range 12 { // the bound is most
		text := fmt.Sprintf("%x\r\n%s\r\n", most+1, strings.Repeat("x", most+1))
		feeds(t, made(t, inParts, most), text, "", strings.Index(text, "\n")+1, false, api.ErrLong)
		feeds(t, made(t, inParts, most+1), text+"0\r\n\r\n", strings.Repeat("x", most+1), len(text)+5, true, api.OK)
	}
}

// 11.2: of FrClose as many bytes may come as it may have; one more is told at that one, those ahead of it are read.
func TestClose(t *testing.T) {
	for _, most := range []int{0, 1, 2, 9, 5000} {
		text := strings.Repeat("q", most)
		for _, behind := range []string{"x", "xy", "\r\n", strings.Repeat("z", 5000)} {
			r := made(t, toClose, most)
			feeds(t, r, text+behind, text, most+1, false, api.ErrLong)
			stays(t, r, false, api.ErrLong)
			r = made(t, toClose, most)
			feeds(t, r, text, text, most, false, api.OK)
			feeds(t, r, "", "", 0, false, api.OK)
			feeds(t, r, behind, "", 1, false, api.ErrLong)
			stays(t, r, false, api.ErrLong)
		}
		r := made(t, toClose, most)
		feeds(t, r, text, text, most, false, api.OK)
		ends(t, r, true, api.OK)
		stays(t, r, true, api.OK)
	}
	r := made(t, toClose, lexis.MaxSize)
	feeds(t, r, "0\r\n\r\n", "0\r\n\r\n", 5, false, api.OK)
	feeds(t, r, "ab", "ab", 2, false, api.OK)
	ends(t, r, true, api.OK)
	stays(t, r, true, api.OK)
}

// 11.3: the connection's end ahead of the first byte, behind no bytes, and in the midst of a body.
func TestCut(t *testing.T) {
	for _, c := range []struct {
		f    api.Framing
		text string
	}{
		{length(1), "a"}, {length(9), "abcdefghi"}, {inParts, "0\r\n\r\n"}, {inParts, "3;x\r\nabc\r\n2\r\nde\r\n0\r\nA: b\r\n\r\n"},
	} {
		for cut := range len(c.text) { // each beginning that is not the whole
			r := made(t, c.f, 9)
			if cut > 0 {
				r.Feed([]byte(c.text[:cut]))
			} else {
				r.Feed(nil)
			}
			got := r.Got()
			ends(t, r, false, api.ErrCut)
			stays(t, r, false, api.ErrCut)
			feeds(t, r, c.text[cut:], "", 0, false, api.ErrCut) // the rest comes too late
			stands(t, r, got, false)
		}
		r := made(t, c.f, 9)
		ends(t, r, false, api.ErrCut)
		feeds(t, r, c.text, "", 0, false, api.ErrCut)
		stands(t, r, 0, false)
		r = made(t, c.f, 9)
		r.Feed([]byte(c.text))
		ends(t, r, true, api.OK)
		stays(t, r, true, api.OK)
	}
	for _, text := range []string{"", "a", "abcdefghi"} { // of FrClose every end is the right one
		r := made(t, toClose, 9)
		feeds(t, r, text, text, len(text), false, api.OK)
		ends(t, r, true, api.OK)
		stays(t, r, true, api.OK)
		stands(t, r, len(text), true)
	}
}

// reading is what a reader told of a text, fed in however many pieces, and of the connection's end behind it.
type reading struct {
	body         string
	n, got       int
	whole, ended bool
	e, endE      api.Errno
}

// inPieces reads a text in pieces whose sizes are told.
func inPieces(r *body.Reader, text string, size func() int) reading {
	var all reading
	for {
		n := min(size(), len(text)-all.n)
		b, read, whole, e := r.Feed([]byte(text[all.n : all.n+n]))
		all.body += string(b)
		all.n += read
		all.whole, all.e = whole, e
		if whole || e != api.OK || all.n == len(text) {
			break
		}
	}
	all.got = r.Got()
	all.ended, all.endE = r.End()
	return all
}

// atOnce reads a text in one piece.
func atOnce(r *body.Reader, text string) reading {
	return inPieces(r, text, func() int { return len(text) })
}

// 11.4 (P3): byte by byte, in pieces of every size, with empty ones between, and parted in three.
func TestPieces(t *testing.T) {
	texts := []string{"", "a", "abcdefghijkl", "3;x\r\nabc\r\n0a\r\n0123456789\r\n0\r\nA: b\r\n\r\nbehind", "3\r\nabcd\r\n", "2\r\nab\r\ng\r\n", "0\r\n\r\n"}
	framings := []api.Framing{none, inParts, toClose, length(0), length(1), length(3), length(11), length(12), length(13)}
	for _, text := range texts {
		for _, f := range framings {
			for _, most := range []int{0, 2, 11, 12, 13, 1000} {
				if f.Length > most {
					continue
				}
				want := atOnce(made(t, f, most), text)
				check := func(how string, size func() int) {
					t.Helper()
					if got := inPieces(made(t, f, most), text, size); got != want {
						t.Fatalf("%q by %+v, at most %d, %s: %+v; want %+v", text, f, most, how, got, want)
					}
				}
				for size := 1; size <= len(text)+1; size++ {
					turn := 0
					check(fmt.Sprintf("in pieces of %d", size), func() int { return size })
					check(fmt.Sprintf("in pieces of %d and empty ones", size), func() int { turn++; return turn % 2 * size })
				}
				for i := range len(text) {
					for j := i; j < len(text); j++ {
						sizes := []int{i, j - i, len(text)}
						check(fmt.Sprintf("parted at %d and %d", i, j), func() int {
							size := sizes[0]
							sizes = sizes[1:]
							return size
						})
					}
				}
			}
		}
	}
}

// model is a body's reader that looks at all that came ahead, anew at each call.
type model struct {
	f    api.Framing
	most int
	came string // all that was read or is to be
	told int    // bytes of the body that were told
	cut  bool   // the connection ended ahead of the body's end
	end  bool
}

// look is what all that came says: the body's bytes, how many bytes were read, whether it is whole, what is wrong.
func (m *model) look() (string, int, bool, api.Errno) {
	switch m.f.Kind {
	case api.FrNone:
		return "", 0, true, api.OK
	case api.FrLength:
		n := min(len(m.came), m.f.Length)
		return m.came[:n], n, n == m.f.Length, api.OK
	case api.FrChunked:
		d, _ := chunked.New(m.most)
		b, n, whole, e := d.Feed([]byte(m.came))
		return string(b), n, whole, e
	}
	if len(m.came) > m.most {
		return m.came[:m.most], m.most + 1, false, api.ErrLong
	}
	return m.came, len(m.came), m.end, api.OK
}

func (m *model) feed(b string) (string, int, bool, api.Errno) {
	_, before, whole, e := m.look()
	if m.cut {
		return "", 0, false, api.ErrCut
	}
	if whole || e != api.OK {
		return "", 0, whole, e
	}
	m.came += b
	all, after, whole, e := m.look()
	m.came = m.came[:after]
	now := all[m.told:]
	m.told = len(all)
	return now, after - before, whole, e
}

func (m *model) ended() (bool, api.Errno) {
	m.end = m.end || m.f.Kind == api.FrClose
	_, _, whole, e := m.look()
	m.cut = m.cut || !whole && e == api.OK
	if m.cut {
		e = api.ErrCut
	}
	return whole, e
}

// drawnText is a text that is often a body in chunks, and often nearly one.
func drawnText(r *rand.Rand) string {
	parts := []string{"1\r\na\r\n", "3;x\r\nabc\r\n", "2\r\n\r\n\r\n", "0\r\n", "A: b\r\n", "\r\n", "x", "4\r\nabcd\r\n", "", "f\r\n"}
	var b strings.Builder
	for range r.Intn(6) {
		b.WriteString(parts[r.Intn(len(parts))])
	}
	if r.Intn(2) == 0 {
		b.WriteString("0\r\n\r\n")
	}
	return b.String()
}

// 11.1 to 11.4, R6: rows of calls, held against the model; two readers are told the same.
func TestRows(t *testing.T) {
	r := rand.New(rand.NewSource(11))
	met := map[string]int{}
	for range 60000 {
		most := r.Intn(14)
		f := []api.Framing{none, inParts, inParts, toClose, toClose, length(r.Intn(most + 1)), length(r.Intn(most + 1))}[r.Intn(7)]
		f.Keep = r.Intn(2) == 0
		one, other, m := made(t, f, most), made(t, f, most), &model{f: f, most: most}
		text := drawnText(r)
		for range 6 {
			if r.Intn(6) == 0 {
				whole, e := m.ended()
				ends(t, one, whole, e)
				ends(t, other, whole, e)
				met[fmt.Sprint(f.Kind, "end", whole, e)]++
			} else {
				n := r.Intn(len(text) + 1)
				b, read, whole, e := m.feed(text[:n])
				feeds(t, one, text[:n], b, read, whole, e)
				feeds(t, other, text[:n], b, read, whole, e)
				text = text[n:]
				met[fmt.Sprint(f.Kind, "feed", whole, e)]++
			}
			stands(t, one, m.told, one.Whole())
			if t.Failed() {
				t.Fatalf("by %+v, at most %d", f, most)
			}
		}
	}
	for _, kind := range []int{api.FrNone, api.FrLength, api.FrChunked, api.FrClose} {
		for _, what := range []string{"feed", "end"} {
			for _, e := range []api.Errno{api.OK, api.ErrCut, api.ErrLong, api.ErrChunk} {
				may := e == api.OK || e == api.ErrCut && kind != api.FrNone && kind != api.FrClose || e == api.ErrLong && kind > api.FrLength || e == api.ErrChunk && kind == api.FrChunked
				wrong, right := met[fmt.Sprint(kind, what, false, e)], met[fmt.Sprint(kind, what, true, e)]
				if may && wrong+right < 100 || !may && wrong+right > 0 || e != api.OK && right > 0 {
					t.Errorf("the kind %d, %s, %v: %d times not whole, %d times whole", kind, what, e, wrong, right)
				}
			}
		}
	}
}

// 11.4: what is whole by its length has just that many bytes.
func TestJustSoMany(t *testing.T) {
	r := rand.New(rand.NewSource(4))
	for n := range 200 {
		x := made(t, length(n), n+r.Intn(3))
		var all []byte
		for !x.Whole() {
			if len(all) != x.Got() || x.Got() >= n {
				t.Fatalf("not whole with %d of %d", x.Got(), n)
			}
			b, _, _, _ := x.Feed(bytes.Repeat([]byte{'x'}, r.Intn(9)))
			all = append(all, b...)
		}
		if len(all) != n || x.Got() != n {
			t.Errorf("whole with %d bytes, Got %d; want %d", len(all), x.Got(), n)
		}
	}
}

// shares tells whether two lists have room in common, spare room too.
func shares(a, b []byte) bool {
	if cap(a) == 0 || cap(b) == 0 {
		return false
	}
	x, y := uintptr(unsafe.Pointer(unsafe.SliceData(a))), uintptr(unsafe.Pointer(unsafe.SliceData(b)))
	return x < y+uintptr(cap(b)) && y < x+uintptr(cap(a))
}

// R3: what is fed is neither changed nor kept; what is told shares nothing with it, nor with what is told later.
func TestMemory(t *testing.T) {
	for _, f := range []api.Framing{none, length(12), inParts, toClose} {
		var answers [][]byte
		r, want := made(t, f, 60), made(t, f, 60)
		for _, piece := range []string{"", "4\r", "\nabcd", "\r\n3;x\r\nefg\r\n0\r\nA: ", "b\r\n\r\nbehind", "more"} {
			b := append([]byte(piece), "spare room"...)
			was := slices.Clone(b)
			told, _, _, _ := r.Feed(b[:len(piece)])
			again, _, _, _ := want.Feed([]byte(piece))
			if !bytes.Equal(b, was) {
				t.Errorf("Feed changed %q to %q", was, b)
			}
			if !bytes.Equal(told, again) {
				t.Errorf("by %+v: %q; want %q", f, told, again)
			}
			for _, other := range append(answers, b) {
				if shares(told, other) {
					t.Errorf("by %+v: %q shares room with %q", f, told, other)
				}
			}
			answers = append(answers, told)
			for _, l := range [][]byte{b, told[:cap(told)]} { // what is done to them is nothing to the reader
				for i := range l {
					l[i] = '!'
				}
			}
		}
		whole, e := r.End()
		if wantWhole, wantE := want.End(); whole != wantWhole || e != wantE || r.Got() != want.Got() {
			t.Errorf("by %+v: End: %v, %v, Got %d; want %v, %v, %d", f, whole, e, r.Got(), wantWhole, wantE, want.Got())
		}
	}
}

// P1: bytes of any kind, of any framing, end; many of them too.
func TestAnyBytes(t *testing.T) {
	r := rand.New(rand.NewSource(1))
	for range 20000 {
		x := made(t, []api.Framing{none, length(r.Intn(9)), inParts, toClose}[r.Intn(4)], 9)
		for range 3 {
			b := make([]byte, r.Intn(20))
			r.Read(b)
			told, n, whole, e := x.Feed(b)
			if n > len(b) || len(told) > n || whole && e != api.OK || x.Got() > 9 {
				t.Fatalf("Feed(%q): %q, %d, %v, %v", b, told, n, whole, e)
			}
		}
		if whole, e := x.End(); whole == (e != api.OK) {
			t.Fatalf("End: %v, %v", whole, e)
		}
	}
	big := strings.Repeat("b", api.MaxBytes)
	x := made(t, toClose, 4*api.MaxBytes)
	for range 4 {
		feeds(t, x, big, big, api.MaxBytes, false, api.OK)
	}
	feeds(t, x, big, "", 1, false, api.ErrLong)
}
