package fields_test

import (
	"math"
	"math/rand"
	"regexp"
	"slices"
	"strings"
	"testing"
	"unsafe"

	"headrace/api"
	"headrace/fields"
)

// list are fields by their names and values.
func list(parts ...string) []api.Field {
	var l []api.Field
	for i := 0; i+1 < len(parts); i += 2 {
		l = append(l, api.Field{Name: parts[i], Value: parts[i+1]})
	}
	return l
}

// many are n fields that are right.
func many(n int) []api.Field {
	l := make([]api.Field, n)
	for i := range l {
		l[i] = api.Field{Name: "a", Value: "b"}
	}
	return l
}

func checks(t *testing.T, l []api.Field, want api.Errno) {
	t.Helper()
	if e := fields.Check(l); e != want {
		t.Errorf("Check(%.200q): %v; want %v", l, e, want)
	}
}

func told(t *testing.T, call string, l, got, want []api.Field) {
	t.Helper()
	if !slices.Equal(got, want) {
		t.Errorf("%s of %.200q: %.200q; want %.200q", call, l, got, want)
	}
}

// 7.1: fields that are right, and how many there may be.
func TestCheck(t *testing.T) {
	checks(t, nil, api.OK)
	checks(t, []api.Field{}, api.OK)
	checks(t, list("Host", "h"), api.OK)
	checks(t, list("a", ""), api.OK)
	checks(t, list("a", "b", "A", "b", "a", "b"), api.OK)
	checks(t, list("!#$%&'*+-.^_`|~09azAZ", "x\ty \x80\xff~!"), api.OK)
	checks(t, list("connection", "close", "te", "t"), api.OK)
	checks(t, list(strings.Repeat("n", api.MaxBytes), strings.Repeat("v", api.MaxBytes)), api.OK)
	checks(t, many(api.MaxFields-1), api.OK)
	checks(t, many(api.MaxFields), api.OK)
	checks(t, many(api.MaxFields+1), api.ErrLong)
	checks(t, many(1<<16), api.ErrLong)
}

// 7.1: which error comes first.
func TestCheckWrong(t *testing.T) {
	for _, name := range []string{"", " ", "a b", "a ", " a", "a:", ":", "a\t", "\x00", "é", "a\r\nb", "(a)", "a,b", "a\"", "a/b", "a=b"} {
		checks(t, list(name, "b"), api.ErrName)
		checks(t, list("a", "b", name, "c"), api.ErrName)
		checks(t, list(name, " b"), api.ErrName) // in one field: the name ahead of the value
	}
	for _, value := range []string{" ", "\t", " b", "b ", "\tb", "b\t", "\x00", "b\r\nc", "\n", "\r", "b\x7fc", "b\x1fc"} {
		checks(t, list("a", value), api.ErrValue)
		checks(t, list("a", "b", "c", value), api.ErrValue)
		checks(t, list("a", value, "c d", ""), api.ErrValue) // field by field
		checks(t, list("c d", "", "a", value), api.ErrName)
	}
	l := append(many(api.MaxFields-1), api.Field{Name: "a b", Value: " "})
	checks(t, l, api.ErrName)
	checks(t, append(slices.Clone(l), api.Field{Name: "a", Value: "b"}), api.ErrLong)
	l = many(api.MaxFields + 1)
	l[0] = api.Field{}
	checks(t, l, api.ErrLong)
	l = many(api.MaxFields)
	l[api.MaxFields-1].Value = " b"
	checks(t, l, api.ErrValue)
}

// 7.1: each byte in a name and in a value.
func TestCheckBytes(t *testing.T) {
	token := regexp.MustCompile("^[A-Za-z0-9!#$%&'*+.^_`|~-]+$")
	for c := range 256 {
		b := string([]byte{byte(c)})
		want := api.ErrName
		if c < 128 && token.MatchString(b) {
			want = api.OK
		}
		for _, s := range []string{b, "a" + b, b + "a", "a" + b + "a"} {
			checks(t, list(s, "b"), want)
		}
		want = api.ErrValue
		if c == 9 || c >= 32 && c != 127 {
			want = api.OK
		}
		checks(t, list("a", "x"+b+"y"), want)
		if c == 9 || c == 32 {
			want = api.ErrValue
		}
		checks(t, list("a", b), want)
		checks(t, list("a", b+"y"), want)
		checks(t, list("a", "x"+b), want)
	}
}

// 7.2: the values of a name, in great and small letters, in their order, and in one text.
func TestAllAndGet(t *testing.T) {
	l := list("Host", "h", "X-A", "1", "hOST", "i, j", "", "none", "x-a", "", "HOST", "h", "X-a ", "blank", "X_A", "other")
	for _, c := range []struct {
		name string
		want []string
		text string
		ok   bool
	}{
		{"host", []string{"h", "i, j", "h"}, "h, i, j, h", true},
		{"Host", []string{"h", "i, j", "h"}, "h, i, j, h", true},
		{"HOST", []string{"h", "i, j", "h"}, "h, i, j, h", true},
		{"x-a", []string{"1", ""}, "1, ", true},
		{"X-A ", []string{"blank"}, "blank", true},
		{"x_a", []string{"other"}, "other", true},
		{"", []string{"none"}, "none", true},
		{"hos", nil, "", false}, {"hostt", nil, "", false}, {"h", nil, "", false}, {" ", nil, "", false}, {"x-\x01", nil, "", false},
	} {
		if x := fields.All(l, c.name); !slices.Equal(x, c.want) {
			t.Errorf("All(%q): %q; want %q", c.name, x, c.want)
		}
		if s, ok := fields.Get(l, c.name); s != c.text || ok != c.ok {
			t.Errorf("Get(%q): %q, %v; want %q, %v", c.name, s, ok, c.text, c.ok)
		}
	}
	if s, ok := fields.Get(list("a", ""), "A"); s != "" || !ok {
		t.Errorf("Get of an empty value: %q, %v", s, ok)
	}
	if s, ok := fields.Get(list("a", "", "A", ""), "a"); s != ", " || !ok {
		t.Errorf("Get of two empty values: %q, %v", s, ok)
	}
	for _, none := range [][]api.Field{nil, {}} {
		if x := fields.All(none, "a"); len(x) != 0 {
			t.Errorf("All of no field: %q", x)
		}
		if s, ok := fields.Get(none, ""); s != "" || ok {
			t.Errorf("Get of no field: %q, %v", s, ok)
		}
	}
	if x := fields.All(many(api.MaxFields+1), "a"); len(x) != api.MaxFields+1 {
		t.Errorf("All of one more than MaxFields: %d", len(x))
	}
}

// R5: letters are those of ASCII: ſ and the sign of Kelvin are no s and k, nor are Ä and ä the same.
func TestLettersOfASCII(t *testing.T) {
	l := list("ſ", "1", "\u212a", "2", "Ä", "3", "\xc4", "4", "k", "5", "[", "6")
	for name, want := range map[string]string{"s": "", "k": "5", "K": "5", "ä": "", "Ä": "3", "\xe4": "", "{": "", "ſ": "1"} {
		if s, ok := fields.Get(l, name); s != want || ok != (want != "") {
			t.Errorf("Get(%q): %q, %v", name, s, ok)
		}
	}
	told(t, "Strip", nil, fields.Strip(list("Connection", "\u212a, ſ", "k", "1", "s", "2", "\u212a", "3")), list("k", "1", "s", "2"))
}

// 7.2: elements, of all fields of a name, in small letters.
func TestItems(t *testing.T) {
	l := list("Connection", "close, X-A", "Other", "o", "connection", " Keep-Alive ,, \t,\"A,b\" C", "CONNECTION", "", "te", ",")
	if x := fields.Items(l, "connectioN"); !slices.Equal(x, []string{"close", "x-a", "keep-alive", "\"a,b\" c"}) {
		t.Errorf("Items: %q", x)
	}
	for _, name := range []string{"te", "none", "", "close"} {
		if x := fields.Items(l, name); len(x) != 0 {
			t.Errorf("Items(%q): %q", name, x)
		}
	}
	// quotes that are not ended go on to the value's end, not into the next field
	if x := fields.Items(list("a", "\"x,Y", "a", "Z,w"), "a"); !slices.Equal(x, []string{"\"x,y", "z", "w"}) {
		t.Errorf("Items: %q", x)
	}
	if x := fields.Items(list("a", "A, a"), "a"); !slices.Equal(x, []string{"a", "a"}) {
		t.Errorf("Items: %q", x)
	}
	if x := fields.Items(nil, ""); len(x) != 0 {
		t.Errorf("Items of no field: %q", x)
	}
}

// 7.2: whether a name has an element.
func TestHas(t *testing.T) {
	l := list("Connection", "Close, \"a,B\"", "connection", "UPGRADE", "te", "", "x", "y")
	for _, item := range []string{"close", "CLOSE", "Close", "upgrade", "Upgrade", "\"A,b\""} {
		if !fields.Has(l, "CONNECTION", item) {
			t.Errorf("Has(%q): false", item)
		}
	}
	for _, item := range []string{"", " close", "close ", "clos", "closed", "a", "\"a", "close, \"a,b\"", "y", ","} {
		if fields.Has(l, "connection", item) {
			t.Errorf("Has(%q): true", item)
		}
	}
	if fields.Has(l, "te", "") || fields.Has(l, "none", "") || fields.Has(l, "te", "close") || fields.Has(nil, "connection", "close") {
		t.Error("Has: an element of a name that has none")
	}
}

// 7.3: all fields of a name are left out.
func TestDrop(t *testing.T) {
	l := list("Host", "h", "X", "1", "hOST", "i", "", "e", "host ", "b", "x", "2")
	told(t, "Drop(host)", l, fields.Drop(l, "host"), list("X", "1", "", "e", "host ", "b", "x", "2"))
	told(t, "Drop(HOST)", l, fields.Drop(l, "HOST"), list("X", "1", "", "e", "host ", "b", "x", "2"))
	told(t, "Drop(x)", l, fields.Drop(l, "x"), list("Host", "h", "hOST", "i", "", "e", "host ", "b"))
	told(t, "Drop()", l, fields.Drop(l, ""), list("Host", "h", "X", "1", "hOST", "i", "host ", "b", "x", "2"))
	told(t, "Drop(none)", l, fields.Drop(l, "none"), l)
	told(t, "Drop(a)", nil, fields.Drop(nil, "a"), nil)
	told(t, "Drop(a)", nil, fields.Drop([]api.Field{}, "a"), nil)
	told(t, "Drop(A)", nil, fields.Drop(many(api.MaxFields+1), "A"), nil)
	told(t, "Drop(b)", nil, fields.Drop(many(api.MaxFields+1), "b"), many(api.MaxFields+1))
}

// 7.3: the first field of a name is set, the others are left out; without one it stands behind all.
func TestSet(t *testing.T) {
	l := list("A", "1", "Host", "h", "B", "2", "hOST", "i", "a", "3", "HOST", "j")
	for _, c := range []struct {
		name, value string
		want        []api.Field
	}{
		{"host", "x", list("A", "1", "host", "x", "B", "2", "a", "3")},
		{"Host", "", list("A", "1", "Host", "", "B", "2", "a", "3")},
		{"a", "x y", list("a", "x y", "Host", "h", "B", "2", "hOST", "i", "HOST", "j")},
		{"b", "2", list("A", "1", "Host", "h", "b", "2", "hOST", "i", "a", "3", "HOST", "j")},
		{"Q", "x", append(slices.Clone(l), api.Field{Name: "Q", Value: "x"})},
	} {
		got, e := fields.Set(l, c.name, c.value)
		if e != api.OK {
			t.Errorf("Set(%q, %q): %v", c.name, c.value, e)
		}
		told(t, "Set("+c.name+", "+c.value+")", l, got, c.want)
	}
	for _, none := range [][]api.Field{nil, {}} {
		got, e := fields.Set(none, "A", "")
		if told(t, "Set", none, got, list("A", "")); e != api.OK {
			t.Error(e)
		}
	}
	// any list, right or not, and as long as it may be
	got, e := fields.Set(list("a b", " ", "", "\x00"), "c", "d")
	if told(t, "Set", nil, got, list("a b", " ", "", "\x00", "c", "d")); e != api.OK {
		t.Error(e)
	}
	got, e = fields.Set(many(api.MaxFields), "c", "d")
	if told(t, "Set", nil, got, append(many(api.MaxFields), api.Field{Name: "c", Value: "d"})); e != api.OK {
		t.Error(e)
	}
}

// 7.3: ErrName ahead of ErrValue, whatever list; and nothing is told beside.
func TestSetWrong(t *testing.T) {
	for _, l := range [][]api.Field{nil, {}, list("a", "1", "b", "2"), list("a b", " "), many(api.MaxFields + 1)} {
		for _, c := range []struct {
			name, value string
			want        api.Errno
		}{
			{"", "", api.ErrName}, {"a b", "", api.ErrName}, {"a ", "x", api.ErrName}, {"a:", "x", api.ErrName}, {"a\r\n", "x", api.ErrName}, {"ä", "x", api.ErrName},
			{"", " ", api.ErrName}, {"a b", "\x00", api.ErrName}, {"a\n", "x\n", api.ErrName},
			{"a", " ", api.ErrValue}, {"a", "x\r\nb: c", api.ErrValue}, {"a", "x ", api.ErrValue}, {"a", "\tx", api.ErrValue}, {"q", "\x7f", api.ErrValue}, {"q", "\n", api.ErrValue},
		} {
			if x, e := fields.Set(l, c.name, c.value); len(x) != 0 || e != c.want {
				t.Errorf("Set(%.100q, %q, %q): %q, %v; want %v", l, c.name, c.value, x, e, c.want)
			}
		}
	}
}

// 7.4: the fields of one connection, by name and by what connection names.
func TestStrip(t *testing.T) {
	for _, c := range [][2][]api.Field{
		{nil, nil},
		{{}, nil},
		{list("Connection", "close, X-A", "X-a", "1", "Host", "h"), list("Host", "h")},
		{list("connection", ""), nil},
		{list("Keep-Alive", "1", "PROXY-CONNECTION", "2", "Te", "3", "Transfer-ENCODING", "4", "uPGRADE", "5", "CONNECTION", "6"), nil},
		// not these
		{list("Trailer", "1", "Proxy-Authorization", "2", "Content-Length", "3", "Keep-Alive2", "4", "t", "5", "Upgrades", "6"), list("Trailer", "1", "Proxy-Authorization", "2", "Content-Length", "3", "Keep-Alive2", "4", "t", "5", "Upgrades", "6")},
		// the same name more than once, ahead of and behind connection, which stands more than once too
		{list("X", "1", "a", "2", "Connection", "x", "x", "3", "connection", "Y, x", "y", "4", "b", "5", "X", "6"), list("a", "2", "b", "5")},
		// connection names itself, and fields that are stripped besides
		{list("Connection", "connection, te, Host", "te", "1", "host", "2", "a", "3"), list("a", "3")},
		// fields without a value, and elements that name no field, or that are none
		{list("Connection", "x, , ,y", "x", "", "z", "", "", "e"), list("z", "", "", "e")},
		{list("Connection", "x y, \"z\"", "x", "1", "y", "2", "z", "3", "x y", "4", "\"Z\"", "5"), list("x", "1", "y", "2", "z", "3")},
		{list("Connection", "\"a,b", "a", "1", "b", "2"), list("a", "1", "b", "2")},
		// what another field names is not stripped, nor what a stripped one names
		{list("Te", "a", "Connection", "Upgrade-X", "upgrade-x", "b", "a", "1", "b", "2", "Other", "c", "c", "3"), list("a", "1", "b", "2", "Other", "c", "c", "3")},
		// fields that are not right by themselves
		{list("Connection ", "a", "a", "1", "te ", "2", "\x00", " "), list("Connection ", "a", "a", "1", "te ", "2", "\x00", " ")},
	} {
		told(t, "Strip", c[0], fields.Strip(c[0]), c[1])
	}
	l := append(many(api.MaxFields+1), list("Connection", "c", "C", "x")...)
	told(t, "Strip", l, fields.Strip(l), many(api.MaxFields+1))
	told(t, "Strip", nil, fields.Strip(append(l, list("connection", "A")...)), nil)
}

// 7.4: Via stands behind all, whatever stands there.
func TestVia(t *testing.T) {
	for _, c := range []struct {
		l     []api.Field
		minor int
		by    string
		want  []api.Field
	}{
		{nil, 1, "headrace", list("Via", "1.1 headrace")},
		{[]api.Field{}, 0, "headrace", list("Via", "1.0 headrace")},
		{list("Host", "h"), 1, "A~b", list("Host", "h", "Via", "1.1 A~b")},
		{list("Via", "1.0 a", "Host", "h", "via", "1.1 b"), 0, "c", list("Via", "1.0 a", "Host", "h", "via", "1.1 b", "Via", "1.0 c")},
		{list("a b", " "), 1, "x", list("a b", " ", "Via", "1.1 x")},
		{many(api.MaxFields), 1, "x", append(many(api.MaxFields), api.Field{Name: "Via", Value: "1.1 x"})},
	} {
		got, e := fields.Via(c.l, c.minor, c.by)
		if told(t, "Via", c.l, got, c.want); e != api.OK {
			t.Error(e)
		}
	}
}

// 7.4: ErrArg ahead of ErrName; and nothing is told beside.
func TestViaWrong(t *testing.T) {
	for _, minor := range []int{-1, 2, 3, 10, 11, math.MinInt, math.MaxInt, 1 << 32} {
		for _, by := range []string{"headrace", "", "a b"} {
			if x, e := fields.Via(list("a", "b"), minor, by); len(x) != 0 || e != api.ErrArg {
				t.Errorf("Via(%d, %q): %q, %v", minor, by, x, e)
			}
		}
	}
	for _, by := range []string{"", " ", "a b", "a ", "h:80", "a\r\n", "ä", "a,b", "(c)"} {
		for minor := range 2 {
			if x, e := fields.Via(list("a", "b"), minor, by); len(x) != 0 || e != api.ErrName {
				t.Errorf("Via(%d, %q): %q, %v", minor, by, x, e)
			}
		}
	}
}

// small are the small letters of a text, told by another means than the program's.
func small(s string) string {
	return regexp.MustCompile("[A-Z]").ReplaceAllStringFunc(s, func(c string) string { return string([]byte{c[0] | 32}) })
}

var parts = []string{"Connection", "connection", "CONNECTION", "Te", "te", "X-A", "x-a", "X-a", "Host", "host", "b", "B", "Keep-Alive", "upgrade", "", "a b"}
var values = []string{"", "close", "x-a", "X-A, te", "Host,b", "\"b,host\"", "CONNECTION", "b , , x-A", "a b", "1"}

// some is a list of fields that are drawn.
func some(r *rand.Rand) []api.Field {
	var l []api.Field
	for range r.Intn(8) {
		l = append(l, api.Field{Name: parts[r.Intn(len(parts))], Value: values[r.Intn(len(values))]})
	}
	return l
}

// elements are those of a value that is one of values.
func elements(value string) []string {
	var out []string
	for _, s := range regexp.MustCompile(`"[^"]*"|[^,"]+`).FindAllString(value, -1) {
		if s = strings.Trim(s, " "); s != "" {
			out = append(out, small(s))
		}
	}
	return out
}

// left are the fields that a function does not take away.
func left(l []api.Field, away func(api.Field) bool) []api.Field {
	return slices.DeleteFunc(slices.Clone(l), away)
}

// 7.2 to 7.5: lists that are drawn, held against a model.
func TestModel(t *testing.T) {
	r := rand.New(rand.NewSource(7))
	for range 20000 {
		l, name := some(r), parts[r.Intn(len(parts))]
		var all, items []string
		for _, f := range l {
			if small(f.Name) == small(name) {
				all = append(all, f.Value)
				items = append(items, elements(f.Value)...)
			}
		}
		if x := fields.All(l, name); !slices.Equal(x, all) {
			t.Fatalf("All(%q, %q): %q", l, name, x)
		}
		if s, ok := fields.Get(l, name); s != strings.Join(all, ", ") || ok != (all != nil) {
			t.Fatalf("Get(%q, %q): %q, %v", l, name, s, ok)
		}
		if x := fields.Items(l, name); !slices.Equal(x, items) {
			t.Fatalf("Items(%q, %q): %q; want %q", l, name, x, items)
		}
		for _, item := range values {
			if fields.Has(l, name, item) != slices.Contains(items, small(item)) {
				t.Fatalf("Has(%q, %q, %q)", l, name, item)
			}
		}
		told(t, "Drop", l, fields.Drop(l, name), left(l, func(f api.Field) bool { return small(f.Name) == small(name) }))
	}
}

// 7.5: what is stripped, what is left, and in which order.
func TestStripModel(t *testing.T) {
	r := rand.New(rand.NewSource(75))
	for range 20000 {
		l := some(r)
		got := fields.Strip(l)
		told(t, "Strip of what is stripped,", got, fields.Strip(got), got)
		named := []string{"connection", "keep-alive", "proxy-connection", "te", "transfer-encoding", "upgrade"}
		for _, f := range l {
			if small(f.Name) == "connection" {
				named = append(named, elements(f.Value)...)
			}
		}
		told(t, "Strip", l, got, left(l, func(f api.Field) bool { return slices.Contains(named, small(f.Name)) }))
	}
}

// 7.5: Get of what was set is that value, and all others stay as they were.
func TestSetModel(t *testing.T) {
	r := rand.New(rand.NewSource(73))
	for range 20000 {
		l, name, value := some(r), parts[r.Intn(len(parts))], values[r.Intn(len(values))]
		got, e := fields.Set(l, name, value)
		if name == "" || name == "a b" {
			if e != api.ErrName {
				t.Fatalf("Set(%q): %v", name, e)
			}
			continue
		}
		if s, ok := fields.Get(got, name); e != api.OK || s != value || !ok || len(fields.All(got, name)) != 1 {
			t.Fatalf("Get of Set(%q, %q, %q): %q, %v, %v", l, name, value, s, ok, e)
		}
		told(t, "Drop of Set", l, fields.Drop(got, name), fields.Drop(l, name))
		own := func(f api.Field) bool { return small(f.Name) == small(name) }
		at := slices.IndexFunc(l, own)
		if at < 0 {
			at = len(l)
		}
		if got[at] != (api.Field{Name: name, Value: value}) {
			t.Fatalf("Set(%q, %q, %q): %q", l, name, value, got)
		}
	}
}

// shares tells whether two texts lie in the same memory.
func shares(a, b string) bool {
	if a == "" || b == "" {
		return false
	}
	x, y := uintptr(unsafe.Pointer(unsafe.StringData(a))), uintptr(unsafe.Pointer(unsafe.StringData(b)))
	return x < y+uintptr(len(b)) && y < x+uintptr(len(a))
}

// texts are the texts of fields.
func texts(l []api.Field) []string {
	var out []string
	for _, f := range l {
		out = append(out, f.Name, f.Value)
	}
	return out
}

// apart tells whether no text of one list shares memory with one of another.
func apart(t *testing.T, call string, a, b []string) {
	t.Helper()
	for _, x := range a {
		for _, y := range b {
			if shares(x, y) {
				t.Errorf("%s: %q shares memory with %q", call, x, y)
			}
		}
	}
}

// R3: what is told shares nothing with what was handed in, nor with what is told at another time.
func TestNewMemory(t *testing.T) {
	name, value, by := strings.Clone("x-set"), strings.Clone("one, two"), strings.Clone("by")
	l := list(strings.Clone("host"), strings.Clone("h"), strings.Clone("x-set"), strings.Clone("Three, four"), strings.Clone("connection"), strings.Clone("close, x-y"))
	l = append(l, list(strings.Clone("b"), strings.Clone("c"))...)
	in := append(texts(l), name, value, by)
	calls := map[string]func() []string{
		"All":   func() []string { return fields.All(l, name) },
		"Get":   func() []string { s, _ := fields.Get(l, name); return []string{s} },
		"Items": func() []string { return fields.Items(l, "connection") },
		"Set":   func() []string { x, _ := fields.Set(l, name, value); return texts(x) },
		"Set behind": func() []string {
			x, _ := fields.Set(l[:1], name, value)
			return texts(x)
		},
		"Drop":  func() []string { return texts(fields.Drop(l, "b")) },
		"Strip": func() []string { return texts(fields.Strip(l)) },
		"Via":   func() []string { x, _ := fields.Via(l, 1, by); return texts(x) },
	}
	for call, tell := range calls {
		a, b := tell(), tell()
		if len(a) == 0 {
			t.Errorf("%s: nothing", call)
		}
		apart(t, call, a, in)
		apart(t, call, a, b)
	}
}

// R3: nothing that is handed in is changed, nor the room behind it; what is told may be changed and added to.
func TestNothingIsChanged(t *testing.T) {
	was := list("connection", "x", "x", "1", "a", "2", "A", "3", "b", "4", "spare", "room", "more", "room")
	whole := slices.Clone(was)
	l := whole[:5]
	calls := map[string]func() []api.Field{
		"Set":   func() []api.Field { x, _ := fields.Set(l, "a", "9"); return x },
		"Set b": func() []api.Field { x, _ := fields.Set(l, "c", "9"); return x },
		"Drop":  func() []api.Field { return fields.Drop(l, "x") },
		"Drop 0": func() []api.Field {
			return fields.Drop(l, "none")
		},
		"Strip": func() []api.Field { return fields.Strip(l) },
		"Via":   func() []api.Field { x, _ := fields.Via(l, 1, "by"); return x },
	}
	for call, tell := range calls {
		a, b := tell(), tell()
		kept := slices.Clone(b)
		a = a[:cap(a)]
		for i := range a {
			a[i] = api.Field{Name: "changed", Value: "changed"}
		}
		told(t, call+" left, when another answer was changed,", nil, b, kept)
		told(t, call+" left", nil, whole, was)
	}
	fields.Check(l)
	fields.All(l, "a")
	fields.Get(l, "a")
	fields.Items(l, "connection")
	fields.Has(l, "connection", "x")
	told(t, "Check, All, Get, Items, Has left", nil, whole, was)
	all := fields.All(l, "a")
	all[0] = "changed"
	items := fields.Items(l, "connection")
	items[0] = "changed"
	told(t, "a changed answer left", nil, whole, was)
	if s, _ := fields.Get(l, "a"); s != "2, 3" || !fields.Has(l, "connection", "x") {
		t.Error("a changed answer is told again")
	}
}

// P1: many fields and long names do not take long.
func TestLong(t *testing.T) {
	long := strings.Repeat("A", api.MaxBytes)
	l := append(many(1<<17), api.Field{Name: "Connection", Value: strings.Repeat("b,", api.MaxBytes/2)}, api.Field{Name: long, Value: long})
	if x := fields.All(l, strings.ToLower(long)); len(x) != 1 {
		t.Errorf("All: %d", len(x))
	}
	if fields.Has(l, long, "a") || !fields.Has(l, long, strings.ToLower(long)) || len(fields.Items(l, "connection")) != api.MaxBytes/2 {
		t.Error("Items of a long value")
	}
	if x, e := fields.Set(l, strings.ToLower(long), "v"); e != api.OK || len(x) != len(l) || x[len(x)-1].Value != "v" {
		t.Errorf("Set: %d, %v", len(x), e)
	}
	if x := fields.Drop(l, long); len(x) != len(l)-1 {
		t.Errorf("Drop: %d", len(x))
	}
	if x := fields.Strip(l); len(x) != len(l)-1 {
		t.Errorf("Strip: %d", len(x))
	}
	if x, e := fields.Via(l, 0, long); e != api.OK || len(x) != len(l)+1 {
		t.Errorf("Via: %d, %v", len(x), e)
	}
}

// R6: a call tells the same at each time.
func TestSameTwice(t *testing.T) {
	r := rand.New(rand.NewSource(6))
	for range 200 {
		l := some(r)
		strip, drop := fields.Strip(l), fields.Drop(l, "te")
		for range 5 {
			told(t, "Strip again", l, fields.Strip(l), strip)
			told(t, "Drop again", l, fields.Drop(l, "te"), drop)
		}
	}
}
