package framing_test

import (
	"math"
	"math/rand"
	"regexp"
	"slices"
	"strconv"
	"strings"
	"testing"

	"headrace/api"
	"headrace/framing"
	"headrace/lexis"
)

const (
	length     = "Content-Length"
	coding     = "Transfer-Encoding"
	connection = "Connection"
)

// list are fields by their names and values.
func list(parts ...string) []api.Field {
	var l []api.Field
	for i := 0; i+1 < len(parts); i += 2 {
		l = append(l, api.Field{Name: parts[i], Value: parts[i+1]})
	}
	return l
}

// request is a request's head.
func request(minor int, parts ...string) api.Head {
	return api.Head{Request: true, Method: "POST", Target: "/", Minor: minor, Fields: list(parts...)}
}

// response is a response's head.
func response(minor, status int, parts ...string) api.Head {
	return api.Head{Minor: minor, Status: status, Reason: "x", Fields: list(parts...)}
}

func asks(t *testing.T, h api.Head, want api.Framing, e api.Errno) {
	t.Helper()
	if f, got := framing.Request(h); f != want || got != e {
		t.Errorf("Request(%.300q, minor %d): %+v, %v; want %+v, %v", h.Fields, h.Minor, f, got, want, e)
	}
}

func answers(t *testing.T, h api.Head, method string, want api.Framing, e api.Errno) {
	t.Helper()
	if f, got := framing.Response(h, method); f != want || got != e {
		t.Errorf("Response(%d, %.300q, minor %d; %q): %+v, %v; want %+v, %v", h.Status, h.Fields, h.Minor, method, f, got, want, e)
	}
}

// tells tells that a request and responses with bodies have one framing, or one error.
func tells(t *testing.T, minor int, parts []string, want api.Framing, e api.Errno) {
	t.Helper()
	asks(t, request(minor, parts...), want, e)
	for _, status := range []int{200, 201, 203, 205, 206, 301, 303, 305, 404, 500, 599} {
		answers(t, response(minor, status, parts...), "GET", want, e)
	}
	for _, method := range []string{"POST", "", "head", "Head", "HEAD ", " HEAD", "HEADS", "CONNECT"} {
		answers(t, response(minor, 200, parts...), method, want, e)
	}
}

// 9.1, 9.2: neither a coding nor a length.
func TestNeither(t *testing.T) {
	for _, parts := range [][]string{
		nil, {"Host", "h"}, {"content length", "5"}, {"content-length ", "5"}, {"content_length", "5"}, {"contentlength", "5"}, {"x-content-length", "5"}, {"", "5"},
		{"transfer-encodings", "chunked"}, {"te", "chunked"}, {"Content-Encoding", "chunked"}, {"Trailer", "content-length"}, {"tran\u017ffer-encoding", "chunked"},
	} {
		asks(t, request(1, parts...), api.Framing{Kind: api.FrNone, Keep: true}, api.OK)
		asks(t, request(0, parts...), api.Framing{Kind: api.FrNone}, api.OK)
		for _, minor := range []int{0, 1} {
			for _, status := range []int{200, 201, 205, 303, 305, 400, 599} {
				answers(t, response(minor, status, parts...), "GET", api.Framing{Kind: api.FrClose}, api.OK)
			}
		}
	}
	h := request(1)
	h.Fields = []api.Field{}
	asks(t, h, api.Framing{Kind: api.FrNone, Keep: true}, api.OK)
}

// 9.1, 9.2: a length: one element or more, in one field or in many, all of one number.
func TestLengths(t *testing.T) {
	for _, c := range []struct {
		n     int
		parts []string
	}{
		{5, []string{length, "5"}}, {0, []string{length, "0"}}, {1, []string{length, "1"}},
		{5, []string{"content-length", "5"}}, {5, []string{"CONTENT-LENGTH", "5"}}, {5, []string{"cOnTeNt-lEnGtH", "5"}},
		{5, []string{length, "5, 5"}}, {5, []string{length, "5,5,5"}}, {5, []string{length, " 5\t"}}, {5, []string{length, ",5, ,"}}, {5, []string{length, "5\t,\t5"}},
		{5, []string{length, "5", length, "5"}}, {5, []string{length, "5", "content-length", "5", "CONTENT-LENGTH", "5, 5"}},
		{5, []string{length, "", length, "5"}}, {5, []string{length, "5", length, ""}}, {5, []string{length, ", ,", length, "5"}},
		{7, []string{length, "007"}}, {7, []string{length, "007, 7"}}, {7, []string{length, "7", length, "07"}}, {0, []string{length, "0, 000"}}, {0, []string{length, "000", length, "0"}},
		{7, []string{length, strings.Repeat("0", 8000) + "7"}},
		{lexis.MaxSize, []string{length, "9007199254740992"}}, {lexis.MaxSize - 1, []string{length, "9007199254740991"}}, {lexis.MaxSize, []string{length, "9007199254740992", length, "009007199254740992"}},
		{12, []string{"a", "b", length, "12", "c", "d", length, "12", "Host", "7"}},
	} {
		tells(t, 1, c.parts, api.Framing{Kind: api.FrLength, Length: c.n, Keep: true}, api.OK)
		tells(t, 0, c.parts, api.Framing{Kind: api.FrLength, Length: c.n}, api.OK)
	}
	many := strings.Repeat("5,", 5000)
	tells(t, 1, []string{length, many}, api.Framing{Kind: api.FrLength, Length: 5, Keep: true}, api.OK)
	tells(t, 1, []string{length, many + "6"}, api.Framing{}, api.ErrLengths)
}

// 9.1, 9.2, 9.3: lengths that are none, or unlike.
func TestLengthsWrong(t *testing.T) {
	for _, parts := range [][]string{
		{length, ""}, {length, " "}, {length, ","}, {length, " , \t,"}, {length, "", length, ""},
		{length, "5, 6"}, {length, "5", length, "6"}, {length, "5, 5, 6"}, {length, "6, 5, 5"}, {length, "5, 6, 5"}, {length, "5, 5", length, "5, 6"}, {length, "5", "content-length", "50"}, {length, "0", length, "5"}, {length, "5", length, "0"},
		{length, "x"}, {length, "5x"}, {length, "x5"}, {length, "-5"}, {length, "+5"}, {length, "5.0"}, {length, "0x5"}, {length, "5 5"}, {length, "5;5"}, {length, "5\x00"}, {length, "٥"}, {length, "1e3"}, {length, "1_0"}, {length, "a"}, {length, "\"5\""}, {length, "\"5,5\""}, {length, "5,\"5"},
		{length, "5, x"}, {length, "x, 5"}, {length, "5", length, "x"}, {length, "x", length, "5"}, {length, "x, x"}, {length, "0, x"}, {length, "x, 0"}, {length, "x", length, "0"}, {length, "5", "a", "b", length, "-5"},
		{length, "9007199254740993"}, {length, "9007199254740993, 9007199254740993"}, {length, "99999999999999999999999999"}, {length, "18446744073709551621"}, {length, "5, 18446744073709551621"}, {length, "0, 18446744073709551616"}, {length, "18446744073709551616, 0"}, {length, strings.Repeat("9", 8000)},
	} {
		tells(t, 1, parts, api.Framing{}, api.ErrLengths)
		tells(t, 0, parts, api.Framing{}, api.ErrLengths)
		tells(t, 0, append([]string{connection, "keep-alive"}, parts...), api.Framing{}, api.ErrLengths)
	}
}

// 9.1, 9.2: the one coding, of Minor 1 alone.
func TestCodings(t *testing.T) {
	for _, parts := range [][]string{
		{coding, "chunked"}, {coding, "Chunked"}, {coding, "CHUNKED"}, {coding, "cHuNkEd"}, {"transfer-encoding", "chunked"}, {"TRANSFER-ENCODING", "chunked"}, {"tRANSFER-eNCODING", "cHUNKED"},
		{coding, " chunked\t"}, {coding, ",chunked, ,"}, {coding, "", coding, "chunked"}, {coding, "chunked", coding, ""}, {"a", "gzip", coding, "chunked", "te", "gzip"}, {"Content-Encoding", "gzip", coding, "chunked"},
	} {
		tells(t, 1, parts, api.Framing{Kind: api.FrChunked, Keep: true}, api.OK)
		for _, minor := range []int{0, 2, -1, 11, math.MaxInt, math.MinInt} {
			tells(t, minor, parts, api.Framing{}, api.ErrCoding)
		}
	}
}

// 9.1, 9.2, 9.3: codings that are none, another one, or more than one.
func TestCodingsWrong(t *testing.T) {
	for _, parts := range [][]string{
		{coding, ""}, {coding, " "}, {coding, ","}, {coding, "", coding, ", ,"},
		{coding, "gzip"}, {coding, "identity"}, {coding, "gzip, chunked"}, {coding, "chunked, gzip"}, {coding, "gzip", coding, "chunked"}, {coding, "chunked", "transfer-encoding", "identity"},
		{coding, "chunked, chunked"}, {coding, "chunked", coding, "chunked"}, {coding, "chunked", coding, "Chunked"}, {coding, "chunked, chunked, chunked"},
		{coding, "xchunked"}, {coding, "chunkedx"}, {coding, "chunked;x"}, {coding, "chunked; q=1"}, {coding, "chunked chunked"}, {coding, "\"chunked\""}, {coding, "chun ked"}, {coding, "chunked\x00"}, {coding, "\x0bchunked"}, {coding, "chunke"}, {coding, "chun\u212aed"},
		{coding, "\"a,chunked"}, {coding, "chunked,\""},
	} {
		for _, minor := range []int{0, 1} {
			tells(t, minor, parts, api.Framing{}, api.ErrCoding)
		}
	}
}

// 9.1, 9.2, 9.3: a coding and a length, whatever they are, wherever they stand: ahead of what is wrong with each.
func TestBoth(t *testing.T) {
	for _, l := range []string{"5", "0", "", "x", "5, 6", "99999999999999999999"} {
		for _, c := range []string{"chunked", "", "gzip", "gzip, chunked", "chunked, chunked", "identity"} {
			for _, minor := range []int{0, 1, 2} {
				tells(t, minor, []string{length, l, coding, c}, api.Framing{}, api.ErrBoth)
				tells(t, minor, []string{coding, c, length, l}, api.Framing{}, api.ErrBoth)
				tells(t, minor, []string{"transfer-encoding", c, "a", "b", "CONTENT-LENGTH", l, "transfer-Encoding", c}, api.Framing{}, api.ErrBoth)
				tells(t, minor, []string{connection, "close", coding, c, length, l}, api.Framing{}, api.ErrBoth)
			}
		}
	}
}

// 9.1, 9.2: a head of the other kind, ahead of all else.
func TestOtherKind(t *testing.T) {
	for _, parts := range [][]string{nil, {length, "5"}, {length, "x"}, {coding, "chunked"}, {coding, "gzip"}, {length, "5", coding, "chunked"}, {connection, "close"}} {
		for _, minor := range []int{0, 1} {
			for _, status := range []int{0, 100, 200, 204, 304, 500} {
				h := response(minor, status, parts...)
				asks(t, h, api.Framing{}, api.ErrArg)
				h.Method, h.Target = "GET", "/"
				asks(t, h, api.Framing{}, api.ErrArg)
				h.Request = true
				for _, method := range []string{"GET", "HEAD", ""} {
					answers(t, h, method, api.Framing{}, api.ErrArg)
				}
			}
		}
	}
	asks(t, api.Head{}, api.Framing{}, api.ErrArg)
	answers(t, api.Head{Request: true}, "HEAD", api.Framing{}, api.ErrArg)
}

// 9.1: a request's method and status are nothing to its framing.
func TestRequestAlone(t *testing.T) {
	for _, method := range []string{"HEAD", "GET", "", "CONNECT"} {
		for _, status := range []int{0, 100, 204, 304} {
			h := request(1, length, "5")
			h.Method, h.Status = method, status
			asks(t, h, api.Framing{Kind: api.FrLength, Length: 5, Keep: true}, api.OK)
			h.Fields = list(length, "x")
			asks(t, h, api.Framing{}, api.ErrLengths)
		}
	}
}

// 9.2: what never has a body, whatever else is told.
func TestNoBody(t *testing.T) {
	told := [][]string{
		nil, {length, "5"}, {length, "0"}, {length, "x"}, {length, "5, 6"}, {coding, "chunked"}, {coding, "gzip"}, {coding, ""}, {length, "5", coding, "chunked"}, {coding, "gzip, chunked", length, ""},
	}
	for _, parts := range told {
		closed := append([]string{connection, "close"}, parts...)
		kept := append([]string{connection, "keep-alive"}, parts...)
		none := func(status int, method string) {
			t.Helper()
			answers(t, response(1, status, parts...), method, api.Framing{Kind: api.FrNone, Keep: true}, api.OK)
			answers(t, response(0, status, parts...), method, api.Framing{Kind: api.FrNone}, api.OK)
			answers(t, response(1, status, closed...), method, api.Framing{Kind: api.FrNone}, api.OK)
			answers(t, response(0, status, kept...), method, api.Framing{Kind: api.FrNone, Keep: true}, api.OK)
		}
		for _, status := range []int{100, 101, 103, 199, 0, 1, -1, math.MinInt, 204, 304} {
			for _, method := range []string{"GET", "HEAD", "", "head"} {
				none(status, method)
			}
		}
		for _, status := range []int{200, 201, 203, 205, 303, 305, 404, 500, 599, 600, math.MaxInt} {
			none(status, "HEAD")
		}
	}
	for _, status := range []int{200, 203, 205, 303, 305, 600, math.MaxInt} { // the neighbours have one
		answers(t, response(1, status, length, "5"), "GET", api.Framing{Kind: api.FrLength, Length: 5, Keep: true}, api.OK)
		answers(t, response(1, status, length, "x"), "GET", api.Framing{}, api.ErrLengths)
		answers(t, response(1, status), "GET", api.Framing{Kind: api.FrClose}, api.OK)
	}
}

// connections are values of connection, and whether each keeps it, of Minor 0 and of 1.
var connections = []struct {
	values    []string
	zero, one bool
}{
	{nil, false, true}, {[]string{""}, false, true}, {[]string{"x"}, false, true}, {[]string{"upgrade, te"}, false, true},
	{[]string{"close"}, false, false}, {[]string{"Close"}, false, false}, {[]string{"CLOSE"}, false, false}, {[]string{" close\t"}, false, false}, {[]string{"x, close"}, false, false}, {[]string{"close,x"}, false, false}, {[]string{"x", "close"}, false, false}, {[]string{"close", "x"}, false, false}, {[]string{",,close,,"}, false, false},
	{[]string{"keep-alive"}, true, true}, {[]string{"Keep-Alive"}, true, true}, {[]string{"KEEP-ALIVE"}, true, true}, {[]string{"x, keep-alive"}, true, true}, {[]string{"keep-alive,x"}, true, true}, {[]string{"x", "keep-alive"}, true, true}, {[]string{"keep-alive", "x"}, true, true},
	{[]string{"keep-alive, close"}, false, false}, {[]string{"close, keep-alive"}, false, false}, {[]string{"Keep-Alive", "Close"}, false, false}, {[]string{"close", "keep-alive"}, false, false}, {[]string{"keep-alive", "keep-alive", "close"}, false, false},
	{[]string{"closed"}, false, true}, {[]string{"xclose"}, false, true}, {[]string{"close x"}, false, true}, {[]string{"\"close\""}, false, true}, {[]string{"close;x"}, false, true}, {[]string{"clo", "se"}, false, true}, {[]string{"\"x, close\""}, false, true},
	{[]string{"keepalive"}, false, true}, {[]string{"keep-alive=1"}, false, true}, {[]string{"keep alive"}, false, true}, {[]string{"\"keep-alive\""}, false, true}, {[]string{"keep-alive\x00"}, false, true},
}

// 9.1, 9.2: whether the connection is kept, by Keep and in every framing that has it.
func TestKeep(t *testing.T) {
	for _, c := range connections {
		for i, name := range []string{connection, "connection", "CONNECTION", "cONNECTION"} {
			var parts []string
			for _, value := range c.values {
				parts = append(parts, name, value, "x-other", "close")
			}
			for minor, keep := range map[int]bool{0: c.zero, 1: c.one, 2: false, -1: false, 10: false, math.MaxInt: false, math.MinInt: false} {
				for _, h := range []api.Head{request(minor, parts...), response(minor, 200, parts...), response(minor, 304, parts...), {Minor: minor, Fields: list(parts...)}} {
					if framing.Keep(h) != keep {
						t.Errorf("Keep(%q, minor %d): %v", h.Fields, minor, !keep)
					}
				}
				if i > 0 {
					continue
				}
				asks(t, request(minor, parts...), api.Framing{Kind: api.FrNone, Keep: keep}, api.OK)
				answers(t, response(minor, 204, parts...), "GET", api.Framing{Kind: api.FrNone, Keep: keep}, api.OK)
				answers(t, response(minor, 200, parts...), "HEAD", api.Framing{Kind: api.FrNone, Keep: keep}, api.OK)
				answers(t, response(minor, 200, parts...), "GET", api.Framing{Kind: api.FrClose}, api.OK)
				tells(t, minor, append([]string{length, "3"}, parts...), api.Framing{Kind: api.FrLength, Length: 3, Keep: keep}, api.OK)
				if minor == 1 {
					tells(t, minor, append([]string{coding, "chunked"}, parts...), api.Framing{Kind: api.FrChunked, Keep: keep}, api.OK)
				}
			}
		}
	}
	// fields that are not connection say nothing of it
	for _, name := range []string{"Proxy-Connection", "Keep-Alive", "close", "connections", "", "connection "} {
		if !framing.Keep(request(1, name, "close")) || framing.Keep(request(0, name, "keep-alive")) {
			t.Errorf("Keep hears %q", name)
		}
	}
}

var (
	numberForm = regexp.MustCompile(`^0*([0-9]{1,16})$`)
	listParts  = regexp.MustCompile(`[^\t ,][^,]*`)
)

// modelItems are a name's elements, of values without quotes.
func modelItems(l []api.Field, name string) (items []string, ok bool) {
	for _, f := range l {
		if !strings.EqualFold(f.Name, name) {
			continue
		}
		ok = true
		for _, part := range listParts.FindAllString(f.Value, -1) {
			items = append(items, strings.ToLower(strings.TrimRight(part, "\t ")))
		}
	}
	return items, ok
}

// modelLength is the one number that elements tell, or -1.
func modelLength(items []string) int {
	found := -1
	for i, item := range items {
		m := numberForm.FindStringSubmatch(item)
		if m == nil {
			return -1
		}
		n, _ := strconv.Atoi(m[1])
		if n > 1<<53 || i > 0 && n != found {
			return -1
		}
		found = n
	}
	return found
}

// modelKeep tells whether a connection is kept.
func modelKeep(h api.Head) bool {
	items, _ := modelItems(h.Fields, connection)
	kept := h.Minor == 1 || h.Minor == 0 && slices.Contains(items, "keep-alive")
	return kept && !slices.Contains(items, "close")
}

// model is the framing that a head is to have, and what is wrong with it.
func model(h api.Head, method string) (api.Framing, api.Errno) {
	codings, coded := modelItems(h.Fields, coding)
	lengths, measured := modelItems(h.Fields, length)
	keep, n := modelKeep(h), modelLength(lengths)
	switch {
	case !h.Request && (h.Status < 200 || h.Status == 204 || h.Status == 304 || method == "HEAD"):
		return api.Framing{Kind: api.FrNone, Keep: keep}, api.OK
	case coded && measured:
		return api.Framing{}, api.ErrBoth
	case coded && (h.Minor != 1 || len(codings) != 1 || codings[0] != "chunked"):
		return api.Framing{}, api.ErrCoding
	case measured && n < 0:
		return api.Framing{}, api.ErrLengths
	case coded:
		return api.Framing{Kind: api.FrChunked, Keep: keep}, api.OK
	case measured:
		return api.Framing{Kind: api.FrLength, Length: n, Keep: keep}, api.OK
	case h.Request:
		return api.Framing{Kind: api.FrNone, Keep: keep}, api.OK
	}
	return api.Framing{Kind: api.FrClose}, api.OK
}

// drawn are fields that are drawn.
func drawn(r *rand.Rand) []api.Field {
	values := map[string][]string{
		length: {"5", "5", "05", "6", "", ",", "5,5", " 5 ", "x", "9007199254740992", "9007199254740993"},
		coding: {"chunked", "Chunked", "gzip", "", "chunked,", "gzip, chunked"}, connection: {"close", "Keep-Alive", "x", "keep-alive, x", "CLOSE,keep-alive"}, "Host": {"a", "close", "5"},
	}
	weights := []string{length, length, length, coding, connection, connection, "Host"}
	var l []api.Field
	for range r.Intn(5) {
		name := weights[r.Intn(len(weights))]
		value := values[name][r.Intn(len(values[name]))]
		if r.Intn(2) == 0 {
			name = strings.ToLower(name)
		}
		l = append(l, api.Field{Name: name, Value: value})
	}
	return l
}

// 9.1, 9.2, 9.3, R6: heads that are drawn, held against the model; each is asked twice.
func TestModel(t *testing.T) {
	r := rand.New(rand.NewSource(9))
	met := map[api.Errno]int{}
	kinds := map[int]int{}
	for range 40000 {
		h := api.Head{Request: true, Minor: r.Intn(3), Fields: drawn(r)}
		want, e := model(h, "")
		for range 2 {
			asks(t, h, want, e)
			if framing.Keep(h) != modelKeep(h) {
				t.Errorf("Keep(%q, minor %d): %v", h.Fields, h.Minor, !modelKeep(h))
			}
		}
		met[e]++
		h.Request, h.Status = false, []int{100, 199, 200, 204, 304, 404}[r.Intn(6)]
		method := []string{"GET", "HEAD", "POST"}[r.Intn(3)]
		want, e = model(h, method)
		for range 2 {
			answers(t, h, method, want, e)
		}
		kinds[want.Kind]++
		if t.Failed() {
			return
		}
	}
	for _, e := range []api.Errno{api.OK, api.ErrBoth, api.ErrCoding, api.ErrLengths} {
		if met[e] < 500 {
			t.Errorf("%v was met %d times alone", e, met[e])
		}
	}
	for _, kind := range []int{api.FrNone, api.FrLength, api.FrChunked, api.FrClose} {
		if kinds[kind] < 50 {
			t.Errorf("the kind %d was met %d times alone", kind, kinds[kind])
		}
	}
}

// readings is how readers part a request that trust a coding or a length more, the first element or the last one.
func readings(l []api.Field) []string {
	codings, coded := modelItems(l, coding)
	lengths, measured := modelItems(l, length)
	end := func(items []string, last bool) string {
		if len(items) == 0 {
			return "nothing"
		}
		if last {
			return strings.TrimLeft(items[len(items)-1], "0")
		}
		return strings.TrimLeft(items[0], "0")
	}
	var all []string
	for _, last := range []bool{false, true} {
		if coded {
			all = append(all, end(codings, last))
		}
		if measured {
			all = append(all, end(lengths, last))
		}
	}
	return all
}

// 9.3: of all requests with two or three fields of a body's end, none is read that two readers would part in two ways.
func TestOneReading(t *testing.T) {
	ends := []api.Field{
		{Name: length, Value: "5"}, {Name: length, Value: "05"}, {Name: length, Value: "6"}, {Name: length, Value: ""}, {Name: length, Value: "5, 5"}, {Name: length, Value: "5, 6"}, {Name: "content-length", Value: "5"},
		{Name: coding, Value: "chunked"}, {Name: coding, Value: "gzip"}, {Name: coding, Value: ""}, {Name: coding, Value: "gzip, chunked"}, {Name: "transfer-encoding", Value: "Chunked"},
	}
	read := 0
	for _, a := range ends {
		for _, b := range ends {
			for _, c := range append(ends, api.Field{Name: "Host", Value: "h"}) {
				l := []api.Field{a, b, c}
				f, e := framing.Request(api.Head{Request: true, Minor: 1, Fields: l})
				if e != api.OK {
					continue
				}
				read++
				told := strconv.Itoa(f.Length)
				if f.Kind == api.FrChunked {
					told = "chunked"
				}
				for _, reading := range readings(l) {
					if reading != told {
						t.Errorf("%q is read as %s, and might be as %s", l, told, reading)
					}
				}
			}
		}
	}
	if read < 50 {
		t.Errorf("%d were read alone", read)
	}
}

// R3: a head is not changed, nor the room behind its fields.
func TestHeadStays(t *testing.T) {
	for _, parts := range [][]string{{length, "5, 5", connection, "Close"}, {coding, "Chunked"}, {length, "x", coding, "GZIP"}, {connection, "Keep-Alive"}} {
		all := append(list(parts...), list("Behind", "A", "Content-Length", "7", "Connection", "X")...)
		was := slices.Clone(all)
		n := len(parts) / 2
		for _, minor := range []int{0, 1} {
			framing.Request(api.Head{Request: true, Minor: minor, Fields: all[:n]})
			framing.Response(api.Head{Minor: minor, Status: 200, Fields: all[:n]}, "GET")
			framing.Response(api.Head{Minor: minor, Status: 204, Fields: all[:n]}, "HEAD")
			framing.Keep(api.Head{Minor: minor, Fields: all[:n]})
		}
		if !slices.Equal(all, was) {
			t.Errorf("changed: %q; was %q", all, was)
		}
	}
	// what stands behind the fields is not heard
	all := list("Host", "h", length, "5", connection, "close")
	asks(t, api.Head{Request: true, Minor: 1, Fields: all[:1]}, api.Framing{Kind: api.FrNone, Keep: true}, api.OK)
}

// P1: heads of any kind end: many fields, long ones, bytes of any kind.
func TestAnyHead(t *testing.T) {
	long := strings.Repeat("5, ", api.MaxBytes/3)
	asks(t, request(1, length, long), api.Framing{Kind: api.FrLength, Length: 5, Keep: true}, api.OK)
	asks(t, request(1, coding, strings.Repeat("chunked,", api.MaxBytes/8)), api.Framing{}, api.ErrCoding)
	asks(t, request(1, coding, strings.Repeat(",", api.MaxBytes)+"chunked"), api.Framing{Kind: api.FrChunked, Keep: true}, api.OK)
	asks(t, request(1, connection, strings.Repeat("\"", api.MaxBytes-1)+",close"), api.Framing{Kind: api.FrNone, Keep: true}, api.OK)
	h := request(1)
	for range 20000 {
		h.Fields = append(h.Fields, api.Field{Name: length, Value: "8"})
	}
	asks(t, h, api.Framing{Kind: api.FrLength, Length: 8, Keep: true}, api.OK)
	r := rand.New(rand.NewSource(3))
	for range 20000 {
		b := make([]byte, r.Intn(12))
		r.Read(b)
		h := api.Head{Request: r.Intn(2) == 0, Minor: r.Int(), Status: r.Int() - math.MaxInt/2}
		for range r.Intn(3) {
			h.Fields = append(h.Fields, api.Field{Name: []string{length, coding, connection, string(b)}[r.Intn(4)], Value: string(b)})
		}
		if f, e := framing.Request(h); e != api.OK && f != (api.Framing{}) {
			t.Errorf("Request(%+q): %+v, %v", h.Fields, f, e)
		}
		if f, e := framing.Response(h, string(b)); e != api.OK && f != (api.Framing{}) {
			t.Errorf("Response(%+q): %+v, %v", h.Fields, f, e)
		}
		framing.Keep(h)
	}
}
