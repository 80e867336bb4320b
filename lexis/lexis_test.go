package lexis_test

import (
	"math"
	"math/big"
	"math/rand"
	"regexp"
	"slices"
	"strconv"
	"strings"
	"testing"
	"unsafe"

	"headrace/api"
	"headrace/lexis"
)

// tokenBytes are written out, so that they are not told by the rule that is tested.
const tokenBytes = "ABCDEFGHIJKLMNOPQRSTUVWXYZabcdefghijklmnopqrstuvwxyz0123456789!#$%&'*+-.^_`|~"

// texts are all texts of some bytes that are at most so long.
func texts(bytes string, most int) []string {
	all := []string{""}
	from := 0
	for range most {
		to := len(all)
		for _, s := range all[from:to] {
			for i := range len(bytes) {
				all = append(all, s+bytes[i:i+1])
			}
		}
		from = to
	}
	return all
}

// shares tells whether two texts lie in the same memory.
func shares(a, b string) bool {
	if a == "" || b == "" {
		return false
	}
	x, y := uintptr(unsafe.Pointer(unsafe.StringData(a))), uintptr(unsafe.Pointer(unsafe.StringData(b)))
	return x < y+uintptr(len(b)) && y < x+uintptr(len(a))
}

// 5.1: each byte as a token, and at each place of one.
func TestTokenBytes(t *testing.T) {
	for c := range 256 {
		b := string([]byte{byte(c)})
		want := strings.Contains(tokenBytes, b)
		for _, s := range []string{b, b + "a", "a" + b, "a" + b + "a", b + b} {
			if lexis.Token(s) != want {
				t.Errorf("Token(%q): %v", s, !want)
			}
		}
	}
}

// 5.1: texts that are tokens, and that are none.
func TestToken(t *testing.T) {
	for _, s := range []string{"GET", "X-Forwarded-For", "~", "0", "1.1", tokenBytes, strings.Repeat("a", api.MaxBytes)} {
		if !lexis.Token(s) {
			t.Errorf("Token(%.40q): false", s)
		}
	}
	for _, s := range []string{"", " ", "a b", "a:", "\"a\"", "a,b", "é", "a\r\n", "a\x00", strings.Repeat("a", api.MaxBytes) + " "} {
		if lexis.Token(s) {
			t.Errorf("Token(%.40q): true", s)
		}
	}
}

// 5.1: each byte as a value, and at each place of one: blanks stand only between others.
func TestValueBytes(t *testing.T) {
	for c := range 256 {
		b := string([]byte{byte(c)})
		blank := c == 9 || c == 32
		may := blank || c > 32 && c < 127 || c > 127
		for _, s := range []string{b, b + b, b + "a", "a" + b} {
			if lexis.Value(s) != (may && !blank) {
				t.Errorf("Value(%q): %v", s, lexis.Value(s))
			}
		}
		for _, s := range []string{"a" + b + "a", "a" + b + b + "a"} {
			if lexis.Value(s) != may {
				t.Errorf("Value(%q): %v", s, !may)
			}
		}
	}
}

// 5.1: texts that are values, and that are none.
func TestValue(t *testing.T) {
	for _, s := range []string{"", "a", "a b\tc", "text/html; q=\"0,5\"", "é", "\x80\xff", strings.Repeat("a", api.MaxBytes)} {
		if !lexis.Value(s) {
			t.Errorf("Value(%.40q): false", s)
		}
	}
	for _, s := range []string{" ", "\t", " a", "a ", "\ta", "a\t", " a ", "a\r\nb", "a\n", "a\x00b", "a\x7f"} {
		if lexis.Value(s) {
			t.Errorf("Value(%q): true", s)
		}
	}
}

// 5.1: blanks go at both ends, and nothing else does.
func TestTrim(t *testing.T) {
	for _, c := range [][2]string{
		{"", ""}, {" ", ""}, {"\t", ""}, {" \t \t", ""}, {"a", "a"}, {" a", "a"}, {"a ", "a"}, {"\ta\t", "a"},
		{" \t a b\tc \t ", "a b\tc"}, {"\ra\n", "\ra\n"}, {" \v a \f ", "\v a \f"}, {" \x00 ", "\x00"}, {" \xc2\xa0 ", "\xc2\xa0"},
		{" \x80\xff\t", "\x80\xff"}, {" ,, ", ",,"}, {"\" a \"", "\" a \""},
	} {
		if got := lexis.Trim(c[0]); got != c[1] {
			t.Errorf("Trim(%q): %q", c[0], got)
		}
	}
	for c := range 256 {
		b := string([]byte{byte(c)})
		want := b
		if c == 9 || c == 32 {
			want = ""
		}
		if got := lexis.Trim(" " + b + "\t"); got != want {
			t.Errorf("Trim of the byte %d with blanks: %q", c, got)
		}
	}
}

// 5.1: the letters A to Z become small, by byte; nothing else changes.
func TestLower(t *testing.T) {
	const great, small = "ABCDEFGHIJKLMNOPQRSTUVWXYZ", "abcdefghijklmnopqrstuvwxyz"
	for c := range 256 {
		b := string([]byte{byte(c)})
		want := b
		if i := strings.Index(great, b); i >= 0 {
			want = small[i : i+1]
		}
		if got := lexis.Lower("x" + b + "Y"); got != "x"+want+"y" {
			t.Errorf("Lower of the byte %d: %q", c, got)
		}
	}
	for _, c := range [][2]string{{"", ""}, {"Content-LENGTH", "content-length"}, {"ÀÉ", "ÀÉ"}, {"\u212a", "\u212a"}, {"\xc9A\xff", "\xc9a\xff"}} {
		if got := lexis.Lower(c[0]); got != c[1] {
			t.Errorf("Lower(%q): %q", c[0], got)
		}
	}
}

// 5.1: two bytes are the same just if Lower of both is.
func TestSameBytes(t *testing.T) {
	for c := range 256 {
		for d := range 256 {
			a, b := string([]byte{byte(c)}), string([]byte{byte(d)})
			if lexis.Same(a, b) != (lexis.Lower(a) == lexis.Lower(b)) {
				t.Errorf("Same(%q, %q)", a, b)
			}
		}
	}
}

// 5.1: whole texts.
func TestSame(t *testing.T) {
	for _, c := range []struct {
		a, b string
		want bool
	}{
		{"", "", true}, {"Via", "vIA", true}, {"HOST", "host", true}, {"a-1", "A-1", true},
		{"a", "", false}, {"", "a", false}, {"a", "b", false}, {"a", "aa", false}, {"host", "hosts", false}, {"a ", "a", false},
		{"@", "`", false}, {"[", "{", false}, {"K", "\u212a", false}, {"s", "\u017f", false}, {"É", "é", false}, {"\xc9", "\xe9", false},
	} {
		if lexis.Same(c.a, c.b) != c.want || lexis.Same(c.b, c.a) != c.want {
			t.Errorf("Same(%q, %q): not %v", c.a, c.b, c.want)
		}
	}
}

type digits struct {
	s    string
	n    int
	want api.Errno
}

func reads(t *testing.T, name string, read func(string) (int, api.Errno), cases []digits) {
	t.Helper()
	for _, c := range cases {
		if n, e := read(c.s); n != c.n || e != c.want {
			t.Errorf("%s(%.40q): %d, %v; want %d, %v", name, c.s, n, e, c.n, c.want)
		}
	}
}

// 5.2: decimal digits, noughts ahead, the greatest number and one above it, and what is no digits, however great it is.
func TestNumber(t *testing.T) {
	noughts := strings.Repeat("0", 100000)
	reads(t, "Number", lexis.Number, []digits{
		{"0", 0, api.OK}, {"7", 7, api.OK}, {"10", 10, api.OK}, {"007", 7, api.OK}, {"00", 0, api.OK}, {"1234567890", 1234567890, api.OK},
		{"9007199254740991", 9007199254740991, api.OK}, {"9007199254740992", lexis.MaxSize, api.OK},
		{noughts, 0, api.OK}, {noughts + "9007199254740992", lexis.MaxSize, api.OK},
		{"9007199254740993", 0, api.ErrBig}, {noughts + "9007199254740993", 0, api.ErrBig}, {"90071992547409920", 0, api.ErrBig},
		{"9223372036854775807", 0, api.ErrBig}, {"9223372036854775808", 0, api.ErrBig}, {"18446744073709551616", 0, api.ErrBig},
		{"18446744073709551617", 0, api.ErrBig}, {"1" + noughts, 0, api.ErrBig}, {strings.Repeat("9", 100000), 0, api.ErrBig},
		{"", 0, api.ErrDigits}, {" ", 0, api.ErrDigits}, {"+1", 0, api.ErrDigits}, {"-1", 0, api.ErrDigits}, {" 1", 0, api.ErrDigits},
		{"1 ", 0, api.ErrDigits}, {"1a", 0, api.ErrDigits}, {"a", 0, api.ErrDigits}, {"1_0", 0, api.ErrDigits}, {"0x1", 0, api.ErrDigits},
		{"1.0", 0, api.ErrDigits}, {"1,1", 0, api.ErrDigits}, {"\u0661", 0, api.ErrDigits}, {"1\x00", 0, api.ErrDigits},
		{strings.Repeat("9", 40) + "a", 0, api.ErrDigits}, {"9007199254740993 ", 0, api.ErrDigits},
	})
}

// 5.2: hex digits, small and great, likewise.
func TestHex(t *testing.T) {
	noughts := strings.Repeat("0", 100000)
	reads(t, "Hex", lexis.Hex, []digits{
		{"0", 0, api.OK}, {"fF", 255, api.OK}, {"0a", 10, api.OK}, {"10", 16, api.OK}, {"abcdef", 0xabcdef, api.OK}, {"ABCDEF", 0xabcdef, api.OK},
		{"123456789", 0x123456789, api.OK}, {"1fffffffffffff", lexis.MaxSize - 1, api.OK}, {"20000000000000", lexis.MaxSize, api.OK},
		{noughts + "20000000000000", lexis.MaxSize, api.OK},
		{"20000000000001", 0, api.ErrBig}, {noughts + "20000000000001", 0, api.ErrBig}, {"200000000000000", 0, api.ErrBig},
		{"7fffffffffffffff", 0, api.ErrBig}, {"8000000000000000", 0, api.ErrBig}, {"10000000000000000", 0, api.ErrBig},
		{"10000000000000001", 0, api.ErrBig}, {"1" + noughts, 0, api.ErrBig}, {strings.Repeat("f", 100000), 0, api.ErrBig},
		{"", 0, api.ErrDigits}, {"g", 0, api.ErrDigits}, {"G", 0, api.ErrDigits}, {"0x1", 0, api.ErrDigits}, {"1h", 0, api.ErrDigits},
		{"-1", 0, api.ErrDigits}, {"+1", 0, api.ErrDigits}, {" 1", 0, api.ErrDigits}, {"1 ", 0, api.ErrDigits}, {"1;", 0, api.ErrDigits},
		{strings.Repeat("f", 40) + "g", 0, api.ErrDigits},
	})
}

// 5.2: each byte as a digit, alone and behind others.
func TestDigitBytes(t *testing.T) {
	for c := range 256 {
		b := string([]byte{byte(c)})
		decimal := strings.Index("0123456789", b)
		hex := strings.Index("0123456789abcdef", b)
		if i := strings.Index("ABCDEF", b); i >= 0 {
			hex = 10 + i
		}
		for _, x := range []struct {
			name string
			read func(string) (int, api.Errno)
			base int
			d    int
		}{{"Number", lexis.Number, 10, decimal}, {"Hex", lexis.Hex, 16, hex}} {
			if x.d < 0 {
				reads(t, x.name, x.read, []digits{{b, 0, api.ErrDigits}, {"1" + b, 0, api.ErrDigits}, {b + "1", 0, api.ErrDigits}})
			} else {
				reads(t, x.name, x.read, []digits{{b, x.d, api.OK}, {"1" + b, x.base + x.d, api.OK}, {b + "1", x.base*x.d + 1, api.OK}})
			}
		}
	}
}

// 5.2: rows of digits of any length say what the library's great numbers say.
func TestDigitsModel(t *testing.T) {
	r := rand.New(rand.NewSource(5))
	greatest := big.NewInt(lexis.MaxSize)
	for range 20000 {
		b := make([]byte, 1+r.Intn(20))
		for i := range b {
			b[i] = "0123456789abcdefABCDEF"[r.Intn(10+r.Intn(13))]
		}
		for _, base := range []int{10, 16} {
			read := lexis.Number
			if base == 16 {
				read = lexis.Hex
			}
			want := digits{s: string(b), want: api.ErrDigits}
			if n, ok := new(big.Int).SetString(string(b), base); ok && n.Cmp(greatest) > 0 {
				want.want = api.ErrBig
			} else if ok {
				want.n, want.want = int(n.Int64()), api.OK
			}
			reads(t, "base "+strconv.Itoa(base), read, []digits{want})
		}
	}
}

// 5.2: a number in hex digits, and what is no number of these.
func TestHexText(t *testing.T) {
	for _, c := range []struct {
		n    int
		want string
	}{{0, "0"}, {1, "1"}, {9, "9"}, {10, "a"}, {15, "f"}, {16, "10"}, {255, "ff"}, {4096, "1000"}, {0xabcdef, "abcdef"},
		{lexis.MaxSize - 1, "1fffffffffffff"}, {lexis.MaxSize, "20000000000000"}} {
		if s, e := lexis.HexText(c.n); s != c.want || e != api.OK {
			t.Errorf("HexText(%d): %q, %v", c.n, s, e)
		}
	}
	for _, n := range []int{-1, -255, math.MinInt, lexis.MaxSize + 1, math.MaxInt} {
		if s, e := lexis.HexText(n); s != "" || e != api.ErrArg {
			t.Errorf("HexText(%d): %q, %v", n, s, e)
		}
	}
}

// 5.4: digits are read as they were written.
func TestDigitsThereAndBack(t *testing.T) {
	r := rand.New(rand.NewSource(54))
	numbers := []int{lexis.MaxSize, lexis.MaxSize - 1}
	for n := range 5000 {
		numbers = append(numbers, n, r.Intn(lexis.MaxSize+1))
	}
	for _, n := range numbers {
		s, e := lexis.HexText(n)
		if e != api.OK {
			t.Fatalf("HexText(%d): %v", n, e)
		}
		reads(t, "Hex", lexis.Hex, []digits{{s, n, api.OK}, {strings.ToUpper(s), n, api.OK}})
		reads(t, "Number", lexis.Number, []digits{{strconv.Itoa(n), n, api.OK}})
	}
}

// 5.3: commas part, but within quotes; blanks at the ends and empty parts go.
func TestList(t *testing.T) {
	for _, c := range []struct {
		s    string
		want []string
	}{
		{"", nil}, {" ", nil}, {",", nil}, {" ,\t, ,,", nil}, {"a", []string{"a"}}, {" a ", []string{"a"}},
		{" a, ,b\"x,y\" ,", []string{"a", "b\"x,y\""}},
		{"a,b", []string{"a", "b"}}, {"a , b\t,\tc", []string{"a", "b", "c"}}, {",a,,b,", []string{"a", "b"}},
		{"a b, c", []string{"a b", "c"}}, {"A,a", []string{"A", "a"}}, {"a;b,c", []string{"a;b", "c"}},
		{"\"\"", []string{"\"\""}}, {"\"a,b\",c", []string{"\"a,b\"", "c"}}, {"\" a \" , b", []string{"\" a \"", "b"}},
		{"\"a\"\"b,c\",d", []string{"\"a\"\"b,c\"", "d"}}, {"x\"a,\"y,z", []string{"x\"a,\"y", "z"}},
		// not ended: on to the text's end, whose blanks go
		{"\"", []string{"\""}}, {"a,\"b,c", []string{"a", "\"b,c"}}, {"\"a, ", []string{"\"a,"}}, {"a\", b ,c\t", []string{"a\", b ,c"}},
		{"\"a\",\"b,", []string{"\"a\"", "\"b,"}},
		// a byte 92 within quotes
		{"\"a\\\",b\",c", []string{"\"a\\\",b\"", "c"}}, {"\"a\\\\\",b", []string{"\"a\\\\\"", "b"}}, {"\"\\\\\\\",\",b", []string{"\"\\\\\\\",\"", "b"}},
		{"\"a\\,b\",c", []string{"\"a\\,b\"", "c"}}, {"\"a\\", []string{"\"a\\"}}, {"\"\\\"", []string{"\"\\\""}}, {"\"a\\\", b", []string{"\"a\\\", b"}},
		// and outside, where it is a byte as others
		{"a\\,b", []string{"a\\", "b"}}, {"\\\"a,b\",c", []string{"\\\"a,b\"", "c"}}, {"\\", []string{"\\"}}, {"\"a\"\\,b", []string{"\"a\"\\", "b"}},
		// other bytes are no blanks, commas or quotes
		{"\r\n,\x00", []string{"\r\n", "\x00"}}, {"'a,b'", []string{"'a", "b'"}}, {"\xff,\x80 ", []string{"\xff", "\x80"}}, {"a\u00a0,\u00a0b", []string{"a\u00a0", "\u00a0b"}},
	} {
		if l := lexis.List(c.s); !slices.Equal(l, c.want) {
			t.Errorf("List(%q): %q; want %q", c.s, l, c.want)
		}
	}
}

// 5.3: a list as long as an argument may be ends too.
func TestListLong(t *testing.T) {
	if l := lexis.List(strings.Repeat("a,", api.MaxBytes/2)); len(l) != api.MaxBytes/2 {
		t.Errorf("%d elements", len(l))
	}
	quoted := strings.Repeat("\"", api.MaxBytes-1) + ","
	if l := lexis.List(quoted); len(l) != 1 || l[0] != quoted {
		t.Errorf("%d elements of quotes", len(l))
	}
}

// part is a list's part in the words of another notation: bytes that are neither commas nor quotes, and quotes, ended or not.
var part = regexp.MustCompile(`^(?:[^",]|"(?:[^"\\]|\\.)*(?:"|\\?$))*`)

// modelList parts a text by that notation.
func modelList(s string) []string {
	var l []string
	for {
		p := part.FindString(s)
		if e := strings.Trim(p, " \t"); e != "" {
			l = append(l, e)
		}
		if len(p) == len(s) {
			return l
		}
		s = s[len(p)+1:]
	}
}

// 5.3, 5.4: all short texts of what matters; their elements, joined, are elements again.
func TestListModel(t *testing.T) {
	for _, s := range texts("a ,\"\\", 7) {
		l := lexis.List(s)
		if want := modelList(s); !slices.Equal(l, want) {
			t.Fatalf("List(%q): %q; want %q", s, l, want)
		}
		if again := lexis.List(strings.Join(l, ", ")); !slices.Equal(again, l) {
			t.Fatalf("List of what List(%q) told: %q; want %q", s, again, l)
		}
	}
}

// 5.4: joined elements of texts of any bytes.
func TestListThereAndBack(t *testing.T) {
	r := rand.New(rand.NewSource(53))
	for range 20000 {
		b := make([]byte, r.Intn(30))
		for i := range b {
			if b[i] = byte(r.Intn(256)); r.Intn(2) == 0 {
				b[i] = ",\"\\ \t"[r.Intn(5)]
			}
		}
		l := lexis.List(string(b))
		if again := lexis.List(strings.Join(l, ", ")); !slices.Equal(again, l) {
			t.Fatalf("List of what List(%q) told: %q; want %q", b, again, l)
		}
		for _, e := range l {
			if e == "" || e != lexis.Trim(e) {
				t.Fatalf("List(%q): an element %q", b, e)
			}
		}
	}
}

// R3: what is told lies in no memory of what was handed in, nor of what was told before.
func TestNewMemory(t *testing.T) {
	for _, s := range []string{"abc", " abc ", "a,b", "\"a,b\",c", "ABC", "x"} {
		told := []string{lexis.Trim(s), lexis.Trim(s), lexis.Lower(s), lexis.Lower(s)}
		told = append(told, lexis.List(s)...)
		told = append(told, lexis.List(s)...)
		for i, a := range told {
			if shares(a, s) {
				t.Errorf("%q lies in what was handed in: %q", a, s)
			}
			for _, b := range told[:i] {
				if len(a) > 1 && shares(a, b) { // the library keeps texts of one byte once for all
					t.Errorf("%q and %q share memory", a, b)
				}
			}
		}
	}
}

// R3: a list that was told is the caller's, spare room too.
func TestListIsNew(t *testing.T) {
	const s = "a, b, c, d, e"
	first := lexis.List(s)
	second := lexis.List(s)
	whole := first[:cap(first)]
	for i := range whole {
		whole[i] = "?"
	}
	if want := []string{"a", "b", "c", "d", "e"}; !slices.Equal(second, want) || !slices.Equal(lexis.List(s), want) {
		t.Errorf("%q, %q", second, lexis.List(s))
	}
}

// R6, P1: every call ends at any bytes, and tells the same twice.
func TestSameTwice(t *testing.T) {
	r := rand.New(rand.NewSource(6))
	for range 5000 {
		b := make([]byte, r.Intn(12))
		for i := range b {
			b[i] = byte(r.Intn(256))
		}
		s := string(b)
		n, e := lexis.Number(s)
		m, f := lexis.Number(s)
		h, g := lexis.Hex(s)
		k, d := lexis.Hex(s)
		if n != m || e != f || h != k || g != d || lexis.Token(s) != lexis.Token(s) || lexis.Value(s) != lexis.Value(s) ||
			lexis.Trim(s) != lexis.Trim(s) || lexis.Lower(s) != lexis.Lower(s) || !slices.Equal(lexis.List(s), lexis.List(s)) || !lexis.Same(s, s) {
			t.Errorf("%q: not the same twice", s)
		}
	}
}
