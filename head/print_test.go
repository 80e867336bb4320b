package head_test

import (
	"math"
	"math/rand"
	"regexp"
	"slices"
	"strconv"
	"strings"
	"testing"
	"unsafe"

	"headrace/api"
	"headrace/head"
)

// shares tells whether two texts lie in the same memory.
func shares(a, b string) bool {
	if a == "" || b == "" {
		return false
	}
	x, y := uintptr(unsafe.Pointer(unsafe.StringData(a))), uintptr(unsafe.Pointer(unsafe.StringData(b)))
	return x < y+uintptr(len(b)) && y < x+uintptr(len(a))
}

func prints(t *testing.T, h api.Head, want string) {
	t.Helper()
	if s, e := head.Print(h); s != want || e != api.OK {
		t.Errorf("Print(%.200q): %.200q, %v; want %.200q", show(h), s, e, want)
	}
	parses(t, h.Request, want+"behind", h, len(want))
}

func printFails(t *testing.T, h api.Head) {
	t.Helper()
	if s, e := head.Print(h); s != "" || e != api.ErrForm {
		t.Errorf("Print(%.200q): %.200q, %v", show(h), s, e)
	}
}

// 8.3: what is printed, and that it is read again.
func TestPrint(t *testing.T) {
	prints(t, request("GET", "/", 1), "GET / HTTP/1.1\r\n\r\n")
	prints(t, request("GET", "/", 0), "GET / HTTP/1.0\r\n\r\n")
	prints(t, request("x~", "a:1", 1, "Host", "a", "host", "", "B", "c d\te"), "x~ a:1 HTTP/1.1\r\nHost: a\r\nhost: \r\nB: c d\te\r\n\r\n")
	prints(t, response(1, 200, "OK"), "HTTP/1.1 200 OK\r\n\r\n")
	prints(t, response(0, 100, ""), "HTTP/1.0 100 \r\n\r\n")
	prints(t, response(1, 599, " a\t", "x", "y: z"), "HTTP/1.1 599  a\t\r\nx: y: z\r\n\r\n")
	prints(t, response(1, 404, "\x80\xff"), "HTTP/1.1 404 \x80\xff\r\n\r\n")
	h := request("GET", "/", 1)
	h.Fields = []api.Field{}
	prints(t, h, "GET / HTTP/1.1\r\n\r\n")
}

// 8.3: what is not the head that is read of its text.
func TestPrintWrong(t *testing.T) {
	printFails(t, api.Head{})
	printFails(t, api.Head{Request: true})
	for _, method := range []string{"", " ", "A B", "A ", " A", "A\r\n", "\r\nA", "\nA", "(", "é", "\x00", "A / HTTP/1.1\r\nA"} {
		printFails(t, request(method, "/", 1))
	}
	for _, target := range []string{"", " ", "/ ", " /", "/ /", "/\t", "/\x7f", "/é", "/\r\n", "/ HTTP/1.1\r\na: b\r\n\r\nGET /", "/\x00"} {
		printFails(t, request("GET", target, 1))
	}
	for _, minor := range []int{-1, 2, 9, 10, 11, -10, math.MinInt, math.MaxInt} {
		printFails(t, request("GET", "/", minor))
		printFails(t, response(minor, 200, "OK"))
	}
	for _, status := range []int{99, 0, -1, 10, 600, 999, 1000, -200, math.MinInt, math.MaxInt} {
		printFails(t, response(1, status, "OK"))
	}
	for _, reason := range []string{"\x00", "a\x7f", "a\r\n", "\r\n", "\n", "\r", "OK\r\na: b", "OK\r\n\r\n"} {
		printFails(t, response(1, 200, reason))
	}
	// what a request has and a response has not, and the other way round
	h := request("GET", "/", 1)
	h.Status = 200
	printFails(t, h)
	h.Status, h.Reason = 0, "OK"
	printFails(t, h)
	h = response(1, 200, "OK")
	h.Method = "GET"
	printFails(t, h)
	h.Method, h.Target = "", "/"
	printFails(t, h)
}

// 8.3 (P5): fields that would be read as others; nothing that ends a line slips in.
func TestPrintFieldsWrong(t *testing.T) {
	for _, f := range [][2]string{
		{"", ""}, {"", "b"}, {" a", "b"}, {"\ta", "b"}, {"a ", "b"}, {"a b", "c"}, {"a:", "b"}, {"a:b", "c"}, {":", ""}, {"a\r\nb", "c"}, {"a\r\n", ""}, {"\r\n", ""}, {"a\n", ""}, {"é", ""}, {"\x00", ""},
		{"a", " b"}, {"a", "b "}, {"a", "\tb"}, {"a", "b\t"}, {"a", " "}, {"a", "b\r\nc: d"}, {"a", "b\r\n"}, {"a", "\r\n"}, {"a", "\r\n\r\n"}, {"a", "b\n"}, {"a", "b\rc"}, {"a", "\x00"}, {"a", "\x7f"}, {"a", "b\r\n c"},
	} {
		for _, h := range []api.Head{request("GET", "/", 1), response(1, 200, "OK")} {
			for _, around := range [][2][]api.Field{{nil, nil}, {list("x", "y"), nil}, {nil, list("x", "y")}} {
				h.Fields = slices.Concat(around[0], list(f[0], f[1]), around[1])
				printFails(t, h)
			}
		}
	}
}

// 8.3: the most fields, the longest lines and the longest head that are printed, and one more of each.
func TestPrintMost(t *testing.T) {
	var l []string
	for range api.MaxFields {
		l = append(l, "a", "b")
	}
	prints(t, request("GET", "/", 1, l...), "GET / HTTP/1.1\r\n"+strings.Repeat("a: b\r\n", api.MaxFields)+"\r\n")
	printFails(t, request("GET", "/", 1, append(l, "a", "b")...))
	long := strings.Repeat("x", api.MaxLine)
	target := long[len("GET  HTTP/1.1"):]
	prints(t, request("GET", target, 1), "GET "+target+" HTTP/1.1\r\n\r\n")
	printFails(t, request("GET", target+"x", 1))
	reason := long[len("HTTP/1.1 200 "):]
	prints(t, response(1, 200, reason), "HTTP/1.1 200 "+reason+"\r\n\r\n")
	printFails(t, response(1, 200, reason+"x"))
	value := long[len("a: "):]
	prints(t, response(1, 200, "", "a", value), "HTTP/1.1 200 \r\na: "+value+"\r\n\r\n")
	printFails(t, response(1, 200, "", "a", value+"x"))
	printFails(t, response(1, 200, "", "aa", value))
	// the blank that is printed behind a colon is of the line, though what was read had none
	h, _, e := head.Parse(true, []byte(requestLine+"a:"+value+"x\r\n\r\n"))
	if printFails(t, h); e != api.OK {
		t.Error(e)
	}
	for _, first := range []string{requestLine, responseLine} {
		text := sized(first, api.MaxHead)
		h, _, e := head.Parse(first == requestLine, []byte(text))
		if e != api.OK {
			t.Fatal(e)
		}
		prints(t, h, text)
		h.Fields[0].Value += "x"
		printFails(t, h)
		h.Fields[0].Value = h.Fields[0].Value[2:]
		if s, e := head.Print(h); len(s) != api.MaxHead-1 || e != api.OK {
			t.Errorf("Print of MaxHead - 1 bytes: %d, %v", len(s), e)
		}
	}
}

// P1: very many fields of one very long text end, and are refused.
func TestPrintLong(t *testing.T) {
	long := strings.Repeat("x", api.MaxBytes)
	h := request("GET", "/", 1)
	h.Fields = slices.Repeat([]api.Field{{Name: long, Value: long}}, 1<<16)
	printFails(t, h)
	h.Fields = slices.Repeat([]api.Field{{}}, 1<<18)
	printFails(t, h)
	printFails(t, request(long, long, 1))
	printFails(t, response(1, 200, long))
}

// modelPrint is a head's text, told by what may stand in it, and whether it has one.
func modelPrint(h api.Head) (string, bool) {
	fits := func(form, s string) bool { return regexp.MustCompile(form).MatchString(s) }
	version := "HTTP/1." + strconv.Itoa(h.Minor)
	first := h.Method + " " + h.Target + " " + version
	right := h.Status == 0 && h.Reason == "" && fits("^"+tokenForm+"$", h.Method) && fits("^[!-~]+$", h.Target)
	if !h.Request {
		first = version + " " + strconv.Itoa(h.Status) + " " + h.Reason
		right = h.Method == "" && h.Target == "" && h.Status >= 100 && h.Status < 600 && fits("^"+shown+"*$", h.Reason)
	}
	lines := []string{first}
	for _, f := range h.Fields {
		lines = append(lines, f.Name+": "+f.Value)
		right = right && fits("^"+tokenForm+"$", f.Name) && fits("^("+seen+"("+shown+"*"+seen+")?)?$", f.Value)
	}
	return strings.Join(lines, "\r\n") + "\r\n\r\n", right && h.Minor >= 0 && h.Minor <= 1
}

// 8.3, 8.5: heads that are drawn, held against the model, and read again.
func TestPrintModel(t *testing.T) {
	r := rand.New(rand.NewSource(83))
	draw := func(right, wrong []string) string {
		if r.Intn(20) > 0 {
			return right[r.Intn(len(right))]
		}
		return wrong[r.Intn(len(wrong))]
	}
	printed := 0
	for range 20000 {
		h := api.Head{Minor: r.Intn(2)}
		if r.Intn(2) == 0 {
			h.Request = true
			h.Method = draw([]string{"GET", "a", "X-~"}, []string{"", "A B", "\r\nGET", "é"})
			h.Target = draw([]string{"/", "*", "http://a/"}, []string{"", "/ a", "/\r\n", "\x80"})
		} else {
			h.Status = []int{100, 200, 599, 404, 404, 404, 99, 600}[r.Intn(8)]
			h.Reason = draw([]string{"", "OK", " a ", "\xff"}, []string{"\r\n", "a\n", "\x7f"})
		}
		for range r.Intn(5) {
			name := draw([]string{"Host", "a", "!"}, []string{"", " a", "a ", "a:", "a\r\n"})
			h.Fields = append(h.Fields, api.Field{Name: name, Value: draw([]string{"", "b", "c, d", ":"}, []string{" ", "b ", "\tb", "b\r\nc: d", "\x00"})})
		}
		want, right := modelPrint(h)
		if !right {
			printFails(t, h)
			continue
		}
		prints(t, h, want)
		printed++
	}
	if printed < 5000 {
		t.Errorf("%d heads were printed alone", printed)
	}
}

// 8.5: what Parse tells is printed, and read the same.
func TestThereAndBack(t *testing.T) {
	r := rand.New(rand.NewSource(85))
	whole := 0
	for range 20000 {
		request := r.Intn(2) == 0
		h, _, e := head.Parse(request, []byte(drawn(r, request)))
		if e != api.OK {
			continue
		}
		whole++
		s, e := head.Print(h)
		if e != api.OK {
			t.Fatalf("Print(%q): %v", show(h), e)
		}
		parses(t, request, s, h, len(s))
	}
	if whole < 1000 {
		t.Errorf("%d heads were read alone", whole)
	}
}

// R3: Print changes nothing, and its text is new.
func TestPrintIsNew(t *testing.T) {
	l := list("a", "b", "c", "d", "spare", "room")
	h := request("GET", "/", 1)
	h.Fields = l[:2]
	a, _ := head.Print(h)
	b, _ := head.Print(h)
	if a != b || shares(a, b) {
		t.Errorf("Print twice: %q, %q", a, b)
	}
	if !slices.Equal(l, list("a", "b", "c", "d", "spare", "room")) {
		t.Errorf("Print changed what it was given: %q", l)
	}
}
