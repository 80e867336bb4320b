package target_test

import (
	"math/rand"
	"regexp"
	"strconv"
	"strings"
	"testing"

	"headrace/api"
	"headrace/target"
)

// What may stand where is written out, so that it is not told by the rules that are tested.
const (
	alnum      = "ABCDEFGHIJKLMNOPQRSTUVWXYZabcdefghijklmnopqrstuvwxyz0123456789"
	hexBytes   = "0123456789abcdefABCDEF"
	hostBytes  = alnum + "-._~!$&'()*+;="
	pathBytes  = alnum + "-._~!$&'()*+,;=:@/"
	queryBytes = pathBytes + "?"
)

// broken are % without two hex digits behind it, whatever else may stand there.
var broken = []string{"%", "%4", "%%41", "%4g", "%g4", "%%", "%-1", "%+1", "% 1", "a%", "a%4", "%41%", "%41%4", "%zz41"}

func host(t *testing.T, s, want string, port int) {
	t.Helper()
	if h, p, e := target.Host(s); h != want || p != port || e != api.OK {
		t.Errorf("Host(%.60q): %.60q, %d, %v; want %.60q, %d", s, h, p, e, want, port)
	}
}

func hostFails(t *testing.T, s string, want api.Errno) {
	t.Helper()
	if h, p, e := target.Host(s); h != "" || p != 0 || e != want {
		t.Errorf("Host(%.60q): %.60q, %d, %v; want %v", s, h, p, e, want)
	}
}

// 6.1: hosts with and without a port, in small letters.
func TestHost(t *testing.T) {
	host(t, "a", "a", -1)
	host(t, "a:", "a", -1)
	host(t, "a:1", "a", 1)
	host(t, "Ex.COM:80", "ex.com", 80)
	host(t, "127.0.0.1:8080", "127.0.0.1", 8080)
	host(t, "1:2", "1", 2)
	host(t, "*", "*", -1)
	host(t, "A%4a%AF:9", "a%4a%af", 9)
	host(t, "%00", "%00", -1)
	host(t, "-._~!$&'()*+;=", "-._~!$&'()*+;=", -1)
	host(t, "..", "..", -1)
}

// 6.1: hosts in [ ] may have a : within, and be as long as they like; they too are told in small letters.
func TestHostInBrackets(t *testing.T) {
	host(t, "[::1]", "[::1]", -1)
	host(t, "[::1]:", "[::1]", -1)
	host(t, "[::1]:8", "[::1]", 8)
	host(t, "[FE80::A]:65535", "[fe80::a]", 65535)
	host(t, "[::ffff:1.2.3.4]", "[::ffff:1.2.3.4]", -1)
	host(t, "[:]", "[:]", -1)
	host(t, "[.]:0", "[.]", 0)
	host(t, "[0]", "[0]", -1)
	long := "[" + strings.Repeat("a:", 500) + "]"
	host(t, long+":1", long, 1)
	for _, s := range []string{"[", "]", "[]", "[]:1", "[::1", "[::1:8", "::1]", "[::1]x", "x[::1]", "[::1]]", "[[::1]", "[g]", "[%41]",
		"[1-2]", "[ ]", "[::1%25a]", "[a][b]", "[a]b:1", "[v1.a:b]", "[::1]1", "[::1] :1"} {
		hostFails(t, s, api.ErrHost)
	}
}

// 6.1: each byte in a host, alone and between others, and in [ ]. (A : parts the port off.)
func TestHostBytes(t *testing.T) {
	for c := range 256 {
		b := string([]byte{byte(c)})
		for _, s := range []string{b, "a" + b, b + "a", "a" + b + "a", "a" + b + "a:1", b + "41"} {
			switch {
			case c == ':':
			case strings.Contains(hostBytes, b):
				if h, _, e := target.Host(s); e != api.OK || len(h) == 0 {
					t.Errorf("Host(%q): %q, %v", s, h, e)
				}
			case c == '%' && s == b+"41":
				host(t, s, s, -1)
			default:
				hostFails(t, s, api.ErrHost)
			}
		}
		for _, s := range []string{"[" + b + "]", "[1" + b + "]", "[" + b + "1]:2"} {
			if strings.Contains(hexBytes+":.", b) {
				if h, _, e := target.Host(s); e != api.OK || len(h) < 3 {
					t.Errorf("Host(%q): %q, %v", s, h, e)
				}
			} else {
				hostFails(t, s, api.ErrHost)
			}
		}
	}
}

// 6.1: a host that is none, whatever stands behind it.
func TestHostWrong(t *testing.T) {
	for _, s := range []string{"", "/", "a b", "a/b", "a?b", "a@b", "a,b", "a#b", "a\\b", "a\"b", "é", "a\x00", "a\r\n", " a", "a "} {
		hostFails(t, s, api.ErrHost)
		hostFails(t, s+":", api.ErrHost)
		hostFails(t, s+":80", api.ErrHost)
		hostFails(t, s+":x", api.ErrHost)
		hostFails(t, s+":65536", api.ErrHost)
	}
	for _, s := range broken {
		hostFails(t, s, api.ErrHost)
		hostFails(t, s+":80", api.ErrHost)
	}
}

// 6.1: % with two hex digits, at any place.
func TestHostEscapes(t *testing.T) {
	for c := range 256 {
		for d := range 256 {
			s := "a%" + string([]byte{byte(c), byte(d)}) + "b"
			if strings.IndexByte(hexBytes, byte(c)) >= 0 && strings.IndexByte(hexBytes, byte(d)) >= 0 {
				host(t, s, strings.ToLower(s), -1)
			} else if c != ':' && d != ':' {
				hostFails(t, s, api.ErrHost)
			}
		}
	}
}

// 6.1: a host of 255 bytes, and of 256; a % counts as the three bytes it stands with.
func TestHostLength(t *testing.T) {
	most := strings.Repeat("a", 255)
	for _, s := range []string{most, strings.Repeat("%41", 85), strings.Repeat("%41", 84) + "abc"} {
		host(t, s, s, -1)
		host(t, s+":65535", s, 65535)
		hostFails(t, s+"a", api.ErrHost)
		hostFails(t, s+"a:80", api.ErrHost)
		hostFails(t, s+"a:x", api.ErrHost)
		hostFails(t, s+":x", api.ErrPort)
	}
	hostFails(t, strings.Repeat("%41", 85)+"%41", api.ErrHost)
	hostFails(t, strings.Repeat("a", api.MaxBytes), api.ErrHost)
}

// 6.1: ports of no, five and six digits, and the greatest.
func TestPorts(t *testing.T) {
	for n := range 65536 {
		host(t, "a:"+strconv.Itoa(n), "a", n)
	}
	for _, h := range []string{"a", "[::1]"} {
		host(t, h+":", h, -1)
		host(t, h+":0", h, 0)
		host(t, h+":00000", h, 0)
		host(t, h+":00080", h, 80)
		host(t, h+":65535", h, 65535)
		for _, port := range []string{"65536", "99999", "65540", "70000", "100000", "000000", "000080", "065535", "655350", "9007199254740993",
			strings.Repeat("9", 40), strings.Repeat("0", 40), "x", "8x", "x8", " ", " 8", "8 ", "+8", "-1", "-0", "0x8", "a", "8.0", "8,8", "8/", "\x00", "٣"} {
			hostFails(t, h+":"+port, api.ErrPort)
		}
	}
}

// 6.1: the port stands behind the last : that is not within [ ].
func TestLastColon(t *testing.T) {
	for _, s := range []string{":", ":80", "::", "::1", "a::", "a::1", "a:1:2", "a:b:1", "[::1]:1:2", "[::1]::", "a:[1:2", "a:]:1", "a:[1]:2", "a:[1]:2]", "[a:1"} {
		hostFails(t, s, api.ErrHost)
	}
	for _, s := range []string{"a:[1:2]", "a:[:]", "[::1]:[::1]", "a:1]", "[::1]:1]", "a:[", "a:]", "a:[]", "a:[1][2:3]", "a:[[1:2]", "a:][:]"} {
		hostFails(t, s, api.ErrPort)
	}
}

// P1: texts that are all brackets or colons end too, however long.
func TestHostLong(t *testing.T) {
	for _, s := range []string{"[", "]", ":", "[:", "[:]", "a:[:]", "%41"} {
		hostFails(t, strings.Repeat(s, api.MaxBytes/len(s)), api.ErrHost)
	}
}

var (
	bracketed = regexp.MustCompile(`^\[[0-9A-Fa-f:.]+\]$`)
	named     = regexp.MustCompile(`^(?:[A-Za-z0-9\-._~!$&'()*+;=]|%[0-9A-Fa-f]{2})+$`)
	ported    = regexp.MustCompile(`^[0-9]{0,5}$`)
	within    = regexp.MustCompile(`\[[^\]]*\]`)
)

// modelHost is Host in the words of another notation.
func modelHost(s string) (string, int, api.Errno) {
	// What is within [ ] is painted over, so that the last : that is left is the one.
	painted := within.ReplaceAllStringFunc(s, func(m string) string { return strings.Repeat("x", len(m)) })
	h, digits := s, ""
	if i := strings.LastIndex(painted, ":"); i >= 0 {
		h, digits = s[:i], s[i+1:]
	}
	if !bracketed.MatchString(h) && (len(h) > 255 || !named.MatchString(h)) {
		return "", 0, api.ErrHost
	}
	if !ported.MatchString(digits) {
		return "", 0, api.ErrPort
	}
	if digits == "" {
		return strings.ToLower(h), -1, api.OK
	}
	n, _ := strconv.Atoi(digits)
	if n > 65535 {
		return "", 0, api.ErrPort
	}
	return strings.ToLower(h), n, api.OK
}

// randomText is a text of some pieces.
func randomText(r *rand.Rand, pieces []string, most int) string {
	var b strings.Builder
	for range r.Intn(most + 1) {
		b.WriteString(pieces[r.Intn(len(pieces))])
	}
	return b.String()
}

// 6.1: texts of what matters, held against the model.
func TestHostModel(t *testing.T) {
	r := rand.New(rand.NewSource(61))
	pieces := []string{"a", "B", "6", "55", "[", "]", ":", ":", "[::1]", ".", "%", "%4F", "-", ",", "/"}
	told := map[api.Errno]int{}
	for range 200000 {
		s := randomText(r, pieces, 6)
		h, p, e := target.Host(s)
		if wantH, wantP, wantE := modelHost(s); h != wantH || p != wantP || e != wantE {
			t.Fatalf("Host(%q): %q, %d, %v; want %q, %d, %v", s, h, p, e, wantH, wantP, wantE)
		}
		told[e]++
	}
	for _, e := range []api.Errno{api.OK, api.ErrHost, api.ErrPort} {
		if told[e] < 1000 {
			t.Errorf("%v was told but %d times", e, told[e])
		}
	}
}
