package write_test

import (
	"math"
	"strconv"
	"testing"

	"headrace/api"
	"headrace/framing"
	"headrace/head"
	"headrace/write"
)

// own are the nine own answers.
var own = []struct {
	status int
	reason string
}{
	{400, "Bad Request"}, {404, "Not Found"}, {408, "Request Timeout"}, {413, "Content Too Large"}, {429, "Too Many Requests"}, {431, "Request Header Fields Too Large"}, {502, "Bad Gateway"}, {503, "Service Unavailable"}, {504, "Gateway Timeout"},
}

// isOwn tells whether a status is one of the nine.
func isOwn(status int) bool {
	for _, o := range own {
		if o.status == status {
			return true
		}
	}
	return false
}

// 12.3: the chapter's example.
func TestLocalExample(t *testing.T) {
	if s, e := write.Local(503, write.Client{Method: "GET", Minor: 1, Keep: true}); s != "HTTP/1.1 503 Service Unavailable\r\nContent-Length: 24\r\n\r\n503 Service Unavailable\n" || e != api.OK {
		t.Errorf("Local(503): %q, %v", s, e)
	}
}

// 12.3, 12.4, R6: all nine, to each kind of client; each is read again as a right head and just its body.
func TestLocal(t *testing.T) {
	for _, o := range own {
		body := strconv.Itoa(o.status) + " " + o.reason + "\n"
		for _, method := range []string{"GET", "HEAD", "POST", "", "head", "HEADS"} {
			for _, minor := range []int{0, 1} {
				for _, keep := range []bool{false, true} {
					want := []string{"HTTP/1.1 " + strconv.Itoa(o.status) + " " + o.reason, "Content-Length: " + strconv.Itoa(len(body))}
					if !keep {
						want = append(want, endLine)
					} else if minor == 0 {
						want = append(want, stayLine)
					}
					text := lines(want...)
					if method != "HEAD" {
						text += body
					}
					c := write.Client{Method: method, Minor: minor, Keep: keep}
					for range 2 {
						if s, e := write.Local(o.status, c); s != text || e != api.OK {
							t.Errorf("Local(%d, %+v): %q, %v; want %q", o.status, c, s, e, text)
						}
					}
					readsLocal(t, text, c)
				}
			}
		}
	}
}

// readsLocal tells that an own answer is a right response with one framing, and not a byte more.
func readsLocal(t *testing.T, text string, c write.Client) {
	t.Helper()
	h, n, e := head.Parse(false, []byte(text))
	if e != api.OK {
		t.Fatalf("%q: %v", text, e)
	}
	f, e := framing.Response(h, c.Method)
	if e != api.OK || f.Length != len(text)-n || f.Keep != c.Keep {
		t.Errorf("%q is read as %+v, %v, with %d bytes behind", text, f, e, len(text)-n)
	}
	nothingStripped(t, h.Fields)
}

// 12.3: another status, or a version that there is not.
func TestLocalWrong(t *testing.T) {
	fails := func(status int, c write.Client) {
		t.Helper()
		if s, e := write.Local(status, c); s != "" || e != api.ErrArg {
			t.Errorf("Local(%d, %+v): %q, %v", status, c, s, e)
		}
	}
	for status := -1100; status < 1100; status++ {
		if isOwn(status) {
			continue
		}
		for _, c := range []write.Client{{}, {Method: "GET", Minor: 1, Keep: true}, {Method: "HEAD"}, {Minor: 2}} {
			fails(status, c)
		}
	}
	for _, status := range []int{math.MinInt, math.MaxInt, 400 + 1<<32, 503 - 1<<32} {
		fails(status, write.Client{Minor: 1})
	}
	for _, o := range own {
		for _, minor := range []int{-1, 2, 10, math.MinInt, math.MaxInt} {
			fails(o.status, write.Client{Method: "GET", Minor: minor})
			fails(o.status, write.Client{Method: "HEAD", Minor: minor, Keep: true})
		}
	}
}

// 12.3: the nine reasons; of another status an empty text.
func TestReason(t *testing.T) {
	for _, o := range own {
		if s := write.Reason(o.status); s != o.reason {
			t.Errorf("Reason(%d): %q; want %q", o.status, s, o.reason)
		}
	}
	for status := -1100; status < 1100; status++ {
		if s := write.Reason(status); s != "" && !isOwn(status) {
			t.Errorf("Reason(%d): %q", status, s)
		}
	}
	for _, status := range []int{math.MinInt, math.MaxInt, 400 + 1<<32, 503 - 1<<32, -400, -503} {
		if s := write.Reason(status); s != "" {
			t.Errorf("Reason(%d): %q", status, s)
		}
	}
}
