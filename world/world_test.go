package world_test

import (
	"bytes"
	"math"
	"math/rand"
	"slices"
	"testing"

	"headrace/api"
	"headrace/world"
)

func want(t *testing.T, call string, e, f api.Errno) {
	t.Helper()
	if e != f {
		t.Errorf("%s: %v; want %v", call, e, f)
	}
}

// opened is a world with connections of these numbers.
func opened(t *testing.T, numbers ...int) *world.World {
	t.Helper()
	w := world.New()
	if w == nil {
		t.Fatal("New: nil")
	}
	for _, c := range numbers {
		want(t, "Open", w.Open(c), api.OK)
	}
	return w
}

func arrive(t *testing.T, w *world.World, c int, b string, f api.Errno) {
	t.Helper()
	want(t, "Arrive", w.Arrive(c, []byte(b)), f)
}

func read(t *testing.T, w *world.World, c, n int, b string, f api.Errno) {
	t.Helper()
	if x, e := w.Read(c, n); string(x) != b || e != f {
		t.Errorf("Read(%d, %d): %q, %v; want %q, %v", c, n, x, e, b, f)
	}
}

func waits(t *testing.T, w *world.World, c, n int, ended bool) {
	t.Helper()
	if x, y := w.Waits(c); x != n || y != ended {
		t.Errorf("Waits(%d): %d, %v; want %d, %v", c, x, y, n, ended)
	}
}

func write(t *testing.T, w *world.World, c int, b string, n int, f api.Errno) {
	t.Helper()
	if x, e := w.Write(c, []byte(b)); x != n || e != f {
		t.Errorf("Write(%d, %q): %d, %v; want %d, %v", c, b, x, e, n, f)
	}
}

func sent(t *testing.T, w *world.World, c int, b string) {
	t.Helper()
	if x := w.Sent(c); string(x) != b {
		t.Errorf("Sent(%d): %q; want %q", c, x, b)
	}
}

func all(t *testing.T, w *world.World, numbers ...int) {
	t.Helper()
	if l := w.All(); !slices.Equal(l, numbers) {
		t.Errorf("All: %v; want %v", l, numbers)
	}
}

func draw(t *testing.T, w *world.World, n, v int, f api.Errno) {
	t.Helper()
	if x, e := w.Draw(n); x != v || e != f {
		t.Errorf("Draw(%d): %d, %v; want %d, %v", n, x, e, v, f)
	}
}

// closedTo looks whether each call tells that c is not open, whatever else is wrong.
func closedTo(t *testing.T, w *world.World, c int) {
	t.Helper()
	want(t, "Close", w.Close(c), api.ErrNone)
	want(t, "Arrive", w.Arrive(c, nil), api.ErrNone)
	want(t, "Arrive too much", w.Arrive(c, make([]byte, api.MaxBytes+1)), api.ErrNone)
	want(t, "End", w.End(c), api.ErrNone)
	want(t, "Room", w.Room(c, 1), api.ErrNone)
	want(t, "Room below 0", w.Room(c, -1), api.ErrNone)
	for _, n := range []int{-1, 0, 1} {
		read(t, w, c, n, "", api.ErrNone)
	}
	write(t, w, c, "", 0, api.ErrNone)
	write(t, w, c, "abc", 0, api.ErrNone)
	waits(t, w, c, 0, false)
}

// The chapter's example.
func TestExample(t *testing.T) {
	w := opened(t, 1)
	arrive(t, w, 1, "abc", api.OK)
	read(t, w, 1, 2, "ab", api.OK)
	want(t, "End", w.End(1), api.OK)
	waits(t, w, 1, 1, true)
	want(t, "Room", w.Room(1, 2), api.OK)
	write(t, w, 1, "xyz", 2, api.OK)
	sent(t, w, 1, "xy")
	want(t, "Give", w.Give(7), api.OK)
	draw(t, w, 3, 1, api.OK)
	draw(t, w, 3, 0, api.OK)
}

// 4.1: a world has nothing at its beginning, and a connection neither.
func TestBeginning(t *testing.T) {
	w := opened(t)
	all(t, w)
	closedTo(t, w, 0)
	sent(t, w, 0, "")
	draw(t, w, 5, 0, api.OK)
	want(t, "Open", w.Open(0), api.OK)
	all(t, w, 0)
	waits(t, w, 0, 0, false)
	write(t, w, 0, "a", 0, api.OK)
	read(t, w, 0, 1, "", api.OK)
	sent(t, w, 0, "")
}

// 4.1: numbers from 0 on, told rising, however they were opened.
func TestOpen(t *testing.T) {
	w := opened(t, 7, 0, math.MaxInt, 3, 4)
	for _, c := range []int{-1, math.MinInt} {
		want(t, "Open below 0", w.Open(c), api.ErrArg)
		closedTo(t, w, c)
		sent(t, w, c, "")
	}
	all(t, w, 0, 3, 4, 7, math.MaxInt)
	want(t, "Close", w.Close(4), api.OK)
	all(t, w, 0, 3, 7, math.MaxInt)
}

// 4.1: a number is opened once alone, though it may be closed; what it had stays.
func TestOpenTwice(t *testing.T) {
	w := opened(t, 1, 2)
	arrive(t, w, 1, "abc", api.OK)
	want(t, "Room", w.Room(1, 5), api.OK)
	write(t, w, 1, "xy", 2, api.OK)
	want(t, "End", w.End(1), api.OK)
	want(t, "Open again", w.Open(1), api.ErrState)
	waits(t, w, 1, 3, true)
	sent(t, w, 1, "xy")
	write(t, w, 1, "zuvw", 3, api.OK)
	want(t, "Close", w.Close(1), api.OK)
	want(t, "Open again", w.Open(1), api.ErrState)
	want(t, "Close one to which nothing was sent", w.Close(2), api.OK)
	want(t, "Open again", w.Open(2), api.ErrState)
	all(t, w)
	closedTo(t, w, 1)
	sent(t, w, 1, "xyzuv")
	sent(t, w, 2, "")
}

// 4.1: MaxConns are open at one time; what is wrong besides is told ahead of that.
func TestMostConns(t *testing.T) {
	w := opened(t)
	var numbers []int
	for c := range api.MaxConns {
		want(t, "Open", w.Open(c), api.OK)
		numbers = append(numbers, c)
	}
	want(t, "Open one more", w.Open(api.MaxConns), api.ErrFull)
	want(t, "Open one more, below 0", w.Open(-1), api.ErrArg)
	want(t, "Open one more, again", w.Open(5), api.ErrState)
	all(t, w, numbers...)
	closedTo(t, w, api.MaxConns)
	want(t, "Close", w.Close(5), api.OK)
	want(t, "Open what was closed", w.Open(5), api.ErrState)
	want(t, "Open", w.Open(api.MaxConns), api.OK)
	want(t, "Open what was closed, of a full world", w.Open(5), api.ErrState)
	want(t, "Open one more", w.Open(api.MaxConns+1), api.ErrFull)
	want(t, "Close", w.Close(api.MaxConns), api.OK)
	want(t, "Open", w.Open(api.MaxConns+1), api.OK)
}

// 4.1 to 4.3: of one that is closed, and of one that never was open, each call tells ErrNone.
func TestClose(t *testing.T) {
	w := opened(t, 1, 2)
	arrive(t, w, 1, "abc", api.OK)
	want(t, "Room", w.Room(1, 9), api.OK)
	write(t, w, 1, "xyz", 3, api.OK)
	want(t, "End", w.End(1), api.OK)
	arrive(t, w, 2, "d", api.OK)
	want(t, "Close", w.Close(1), api.OK)
	closedTo(t, w, 1)
	closedTo(t, w, 3)
	sent(t, w, 1, "xyz")
	sent(t, w, 3, "")
	want(t, "Close another", w.Close(3), api.ErrNone)
	waits(t, w, 2, 1, false)
	all(t, w, 2)
}

// 4.2: the first n that wait; all, if there are fewer; none of n below 1.
func TestRead(t *testing.T) {
	w := opened(t, 1, 2)
	read(t, w, 1, 5, "", api.OK)
	arrive(t, w, 1, "abc", api.OK)
	arrive(t, w, 1, "", api.OK)
	want(t, "Arrive nil", w.Arrive(1, nil), api.OK)
	arrive(t, w, 2, "other", api.OK)
	arrive(t, w, 1, "de", api.OK)
	for _, n := range []int{0, -1, math.MinInt} {
		read(t, w, 1, n, "", api.OK)
	}
	waits(t, w, 1, 5, false)
	read(t, w, 1, 1, "a", api.OK)
	read(t, w, 1, 3, "bcd", api.OK)
	arrive(t, w, 1, "fg", api.OK)
	waits(t, w, 1, 3, false)
	read(t, w, 1, 4, "efg", api.OK)
	read(t, w, 1, 1, "", api.OK)
	waits(t, w, 1, 0, false)
	arrive(t, w, 1, "h", api.OK)
	read(t, w, 1, math.MaxInt, "h", api.OK)
	read(t, w, 2, 5, "other", api.OK)
}

// 4.2: nothing more comes over one that ended; what waits may still be read, and what has room be written.
func TestEnd(t *testing.T) {
	w := opened(t, 1, 2)
	arrive(t, w, 1, "abc", api.OK)
	want(t, "End", w.End(1), api.OK)
	waits(t, w, 1, 3, true)
	waits(t, w, 2, 0, false)
	arrive(t, w, 1, "d", api.ErrState)
	arrive(t, w, 1, "", api.ErrState)
	want(t, "Arrive too much", w.Arrive(1, make([]byte, api.MaxBytes+1)), api.ErrState)
	waits(t, w, 1, 3, true)
	want(t, "End again", w.End(1), api.OK)
	read(t, w, 1, 2, "ab", api.OK)
	read(t, w, 1, 2, "c", api.OK)
	read(t, w, 1, 2, "", api.OK)
	waits(t, w, 1, 0, true)
	want(t, "Room", w.Room(1, 1), api.OK)
	write(t, w, 1, "x", 1, api.OK)
	sent(t, w, 1, "x")
}

// 4.2: MaxBytes wait at most; more in all, or at once, changes nothing.
func TestMostBytes(t *testing.T) {
	w := opened(t, 1, 2)
	want(t, "Arrive too much", w.Arrive(1, make([]byte, api.MaxBytes+1)), api.ErrLong)
	waits(t, w, 1, 0, false)
	want(t, "Arrive", w.Arrive(1, bytes.Repeat([]byte("x"), api.MaxBytes)), api.OK)
	arrive(t, w, 1, "a", api.ErrLong)
	arrive(t, w, 1, "", api.OK)
	waits(t, w, 1, api.MaxBytes, false)
	arrive(t, w, 2, "a", api.OK)
	read(t, w, 1, 2, "xx", api.OK)
	arrive(t, w, 1, "abc", api.ErrLong)
	arrive(t, w, 1, "ab", api.OK)
	arrive(t, w, 1, "c", api.ErrLong)
	if b, e := w.Read(1, math.MaxInt); len(b) != api.MaxBytes || !bytes.HasSuffix(b, []byte("xxab")) || e != api.OK {
		t.Errorf("Read: %d bytes, %v", len(b), e)
	}
	want(t, "End", w.End(2), api.OK)
	arrive(t, w, 2, "a", api.ErrState)
}

// 4.3: room adds up, to MaxBytes at most; below 0 it changes nothing.
func TestRoom(t *testing.T) {
	w := opened(t, 1, 2, 3)
	write(t, w, 1, "abc", 0, api.OK)
	want(t, "Room", w.Room(1, 0), api.OK)
	write(t, w, 1, "abc", 0, api.OK)
	want(t, "Room", w.Room(1, 2), api.OK)
	want(t, "Room", w.Room(1, 1), api.OK)
	for _, n := range []int{-1, math.MinInt} {
		want(t, "Room below 0", w.Room(1, n), api.ErrArg)
	}
	write(t, w, 1, "", 0, api.OK)
	write(t, w, 1, "ab", 2, api.OK)
	write(t, w, 1, "cde", 1, api.OK)
	write(t, w, 1, "de", 0, api.OK)
	sent(t, w, 1, "abc")
	write(t, w, 2, "z", 0, api.OK)
	sent(t, w, 2, "")
	want(t, "Room", w.Room(1, 5), api.OK)
	write(t, w, 1, "de", 2, api.OK)
	sent(t, w, 1, "abcde")
	b := make([]byte, api.MaxBytes+9)
	for _, rooms := range [][]int{{api.MaxBytes}, {api.MaxBytes, 1}, {5, api.MaxBytes}, {api.MaxBytes - 1, 1}, {math.MaxInt}, {math.MaxInt, math.MaxInt}, {1, math.MaxInt}} {
		for _, n := range rooms {
			want(t, "Room", w.Room(3, n), api.OK)
		}
		if n, e := w.Write(3, b); n != api.MaxBytes || e != api.OK {
			t.Errorf("Write of the room %v: %d, %v", rooms, n, e)
		}
	}
	want(t, "Room", w.Room(3, api.MaxBytes-1), api.OK)
	if n, e := w.Write(3, b); n != api.MaxBytes-1 || e != api.OK {
		t.Errorf("Write: %d, %v", n, e)
	}
	if x := w.Sent(3); len(x) != 8*api.MaxBytes-1 {
		t.Errorf("Sent: %d bytes", len(x))
	}
}

// 4.4: numbers come in their row, each by the rest; a number that is none changes nothing.
func TestDraw(t *testing.T) {
	w := opened(t)
	for _, v := range []int{-1, math.MinInt, 1 << 32, math.MaxInt} {
		want(t, "Give", w.Give(v), api.ErrArg)
	}
	for _, v := range []int{7, 0, 1<<32 - 1, 1<<32 - 1, 5, 6, 9} {
		want(t, "Give", w.Give(v), api.OK)
	}
	for _, n := range []int{0, -1, math.MinInt} {
		draw(t, w, n, 0, api.ErrArg)
	}
	draw(t, w, 3, 1, api.OK)
	draw(t, w, 3, 0, api.OK)
	draw(t, w, 1<<32, 1<<32-1, api.OK)
	draw(t, w, 1<<32-1, 0, api.OK)
	draw(t, w, 1, 0, api.OK)
	draw(t, w, math.MaxInt, 6, api.OK)
	want(t, "Give", w.Give(8), api.OK)
	draw(t, w, 10, 9, api.OK)
	draw(t, w, 10, 8, api.OK)
	draw(t, w, 10, 0, api.OK)
	draw(t, w, 0, 0, api.ErrArg)
}

// 4.4: MaxDraws wait at most; a wrong number is told ahead of that.
func TestMostDraws(t *testing.T) {
	w := opened(t)
	for v := range api.MaxDraws {
		want(t, "Give", w.Give(v), api.OK)
	}
	want(t, "Give one more", w.Give(1), api.ErrFull)
	want(t, "Give one more, below 0", w.Give(-1), api.ErrArg)
	want(t, "Give one more, too great", w.Give(1<<32), api.ErrArg)
	draw(t, w, 0, 0, api.ErrArg)
	want(t, "Give one more", w.Give(1), api.ErrFull)
	draw(t, w, api.MaxDraws, 0, api.OK)
	want(t, "Give", w.Give(77), api.OK)
	want(t, "Give one more", w.Give(1), api.ErrFull)
	for v := 1; v < api.MaxDraws; v++ {
		draw(t, w, api.MaxDraws, v, api.OK)
	}
	draw(t, w, api.MaxDraws, 77, api.OK)
	draw(t, w, api.MaxDraws, 0, api.OK)
}

// 4.4: a nil world has nothing open, is full, and draws 0.
func TestNilWorld(t *testing.T) {
	var w *world.World
	for _, c := range []int{0, 1, math.MaxInt} {
		want(t, "Open", w.Open(c), api.ErrFull)
		closedTo(t, w, c)
		sent(t, w, c, "")
	}
	want(t, "Open below 0", w.Open(-1), api.ErrArg)
	closedTo(t, w, -1)
	sent(t, w, -1, "")
	all(t, w)
	for _, v := range []int{0, 7, 1<<32 - 1} {
		want(t, "Give", w.Give(v), api.ErrFull)
	}
	for _, v := range []int{-1, 1 << 32} {
		want(t, "Give", w.Give(v), api.ErrArg)
	}
	draw(t, w, 1, 0, api.OK)
	draw(t, w, math.MaxInt, 0, api.OK)
	draw(t, w, 0, 0, api.ErrArg)
	draw(t, w, -1, 0, api.ErrArg)
}

// P1: a world that New did not make ends its calls too.
func TestZeroWorld(t *testing.T) {
	var w world.World
	closedTo(t, &w, 1)
	sent(t, &w, 1, "")
	all(t, &w)
	draw(t, &w, 3, 0, api.OK)
	want(t, "Give", w.Give(2), api.OK)
	want(t, "Open", w.Open(1), api.OK)
	arrive(t, &w, 1, "abc", api.OK)
	read(t, &w, 1, 9, "abc", api.OK)
	want(t, "Close", w.Close(1), api.OK)
	want(t, "Open again", w.Open(1), api.ErrState)
	draw(t, &w, 3, 2, api.OK)
}

// R3: what arrives and what is written is neither changed nor kept, spare room too.
func TestKeepsNothing(t *testing.T) {
	w := opened(t, 1)
	want(t, "Room", w.Room(1, 9), api.OK)
	in, out := []byte("abcdWXYZ"), []byte("efghSTUV")
	want(t, "Arrive", w.Arrive(1, in[:4:6]), api.OK)
	if n, e := w.Write(1, out[:4:6]); n != 4 || e != api.OK {
		t.Errorf("Write: %d, %v", n, e)
	}
	if string(in) != "abcdWXYZ" || string(out) != "efghSTUV" {
		t.Errorf("what was handed in is changed: %q, %q", in, out)
	}
	scribble(in)
	scribble(out)
	arrive(t, w, 1, "ij", api.OK)
	write(t, w, 1, "kl", 2, api.OK)
	sent(t, w, 1, "efghkl")
	read(t, w, 1, 9, "abcdij", api.OK)
	if string(in) != "########" || string(out) != "########" {
		t.Errorf("a later call changed what was handed in: %q, %q", in, out)
	}
}

// scribble writes over an answer, spare room too.
func scribble(b []byte) {
	b = b[:cap(b)]
	for i := range b {
		b[i] = '#'
	}
}

// R3: what is read shares no memory with the world or with another answer.
func TestReadApart(t *testing.T) {
	w := opened(t, 1)
	arrive(t, w, 1, "abcdefghij", api.OK)
	one, _ := w.Read(1, 2)
	scribble(one)
	two, _ := w.Read(1, 3)
	arrive(t, w, 1, "klmnop", api.OK)
	_ = append(two, "++++++"...)
	three, _ := w.Read(1, 2)
	scribble(one)
	scribble(three)
	if string(two) != "cde" {
		t.Errorf("answers share memory: %q", two)
	}
	read(t, w, 1, 99, "hijklmnop", api.OK)
	arrive(t, w, 1, "qrstuvwxyz", api.OK)
	if string(one) != "##" || string(two) != "cde" || string(three) != "##" {
		t.Errorf("a later call reached answers: %q, %q, %q", one, two, three)
	}
	read(t, w, 1, 99, "qrstuvwxyz", api.OK)
}

// R3: what is told of what was sent, and of what is open, shares no memory with the world or with another answer.
func TestSentApart(t *testing.T) {
	w := opened(t, 3, 1, 2)
	want(t, "Room", w.Room(1, 99), api.OK)
	write(t, w, 1, "abc", 3, api.OK)
	one, two := w.Sent(1), w.Sent(1)
	scribble(one)
	_ = append(two, "++++++"...)
	write(t, w, 1, "def", 3, api.OK)
	if string(two) != "abc" {
		t.Errorf("answers share memory: %q", two)
	}
	sent(t, w, 1, "abcdef")
	three := w.Sent(1)
	l := w.All()
	l = append(l[:1], 9, 9, 9)
	all(t, w, 1, 2, 3)
	want(t, "Close", w.Close(1), api.OK)
	four := w.Sent(1)
	scribble(three)
	sent(t, w, 1, "abcdef")
	scribble(four)
	sent(t, w, 1, "abcdef")
	if !slices.Equal(l, []int{1, 9, 9, 9}) {
		t.Errorf("a later call reached All's answer: %v", l)
	}
}

// R6: worlds do not hang together.
func TestWorldsApart(t *testing.T) {
	a, b := opened(t, 1), opened(t, 1, 2)
	arrive(t, a, 1, "abc", api.OK)
	want(t, "Give", a.Give(5), api.OK)
	want(t, "Close", b.Close(1), api.OK)
	draw(t, b, 9, 0, api.OK)
	waits(t, a, 1, 3, false)
	all(t, a, 1)
	all(t, b, 2)
}

// script is what came over a connection and what was written to it, as a model.
type script struct {
	came, wrote, taken []byte
	given              int
	ended              bool
}

// 4.5: what is read is what came, in its order; what is sent is never more than the room that was given.
func TestAgainstScript(t *testing.T) {
	r := rand.New(rand.NewSource(4))
	for range 100 {
		w := opened(t, 0, 1, 2)
		scripts := make([]script, 3)
		for range 300 {
			c := r.Intn(3)
			s := &scripts[c]
			b := make([]byte, r.Intn(9))
			r.Read(b)
			switch r.Intn(20) {
			case 0:
				want(t, "End", w.End(c), api.OK)
				s.ended = true
			case 1, 2, 3, 4, 5, 6:
				if e := w.Arrive(c, b); e == api.OK {
					s.came = append(s.came, b...)
				} else if !s.ended || e != api.ErrState {
					t.Fatalf("Arrive: %v", e)
				}
			case 7, 8, 9, 10, 11, 12:
				x, e := w.Read(c, len(b)-1)
				if e != api.OK || len(x) > len(b) {
					t.Fatalf("Read: %v, %v", x, e)
				}
				s.taken = append(s.taken, x...)
			case 13, 14, 15:
				want(t, "Room", w.Room(c, len(b)), api.OK)
				s.given += len(b)
			default:
				n, e := w.Write(c, b)
				if e != api.OK || n != min(len(b), s.given-len(s.wrote)) {
					t.Fatalf("Write: %d, %v", n, e)
				}
				s.wrote = append(s.wrote, b[:n]...)
			}
			sameAsScript(t, w, c, s)
		}
	}
}

func sameAsScript(t *testing.T, w *world.World, c int, s *script) {
	t.Helper()
	if !bytes.HasPrefix(s.came, s.taken) {
		t.Fatalf("came %v; read %v", s.came, s.taken)
	}
	waits(t, w, c, len(s.came)-len(s.taken), s.ended)
	if x := w.Sent(c); !bytes.Equal(x, s.wrote) || len(x) > s.given {
		t.Fatalf("sent %v; written %v; room %d", x, s.wrote, s.given)
	}
}
