package target

import (
	"strings"

	"headrace/api"
	"headrace/lexis"
)

const (
	maxHost   = 255 // bytes of a host that is not in [ ]
	maxPort   = 65535
	maxDigits = 5 // of a port

	hostMarks  = "-._~!$&'()*+;="
	pathMarks  = "-._~!$&'()*+,;=:@/"
	queryMarks = pathMarks + "?"
)

// Host is a host, and its port; -1: none.
func Host(s string) (string, int, api.Errno) {
	host, digits := parted(s)
	if !isHost(host) {
		return "", 0, api.ErrHost
	}
	port, e := portOf(digits)
	if e != api.OK {
		return "", 0, e
	}
	return lexis.Lower(host), port, api.OK
}

// parted are what stands ahead of the last : that is not within [ ], and what stands behind it.
func parted(s string) (string, string) {
	last, outside := -1, -1
	open := false
	for i := range len(s) {
		switch s[i] {
		case ':':
			last = i
		case '[':
			if !open {
				open, outside = true, last
			}
		case ']':
			// Only now is it known that what was found behind the [ is within.
			if open {
				open, last = false, outside
			}
		}
	}
	if last < 0 {
		return s, ""
	}
	return s[:last], s[last+1:]
}

// isHost tells whether a text is a host, without a port.
func isHost(s string) bool {
	if strings.HasPrefix(s, "[") {
		return isBracketed(s)
	}
	return s != "" && len(s) <= maxHost && holds(s, hostMarks)
}

// isBracketed tells whether a text that begins with [ is a host.
func isBracketed(s string) bool {
	inner, closed := strings.CutSuffix(s[1:], "]")
	for i := range len(inner) {
		if c := inner[i]; c != ':' && c != '.' && !hexDigits(inner[i:i+1]) {
			return false
		}
	}
	return closed && inner != ""
}

// portOf is what a port's digits say.
func portOf(digits string) (int, api.Errno) {
	if digits == "" {
		return noPort, api.OK
	}
	n, e := lexis.Number(digits)
	if e != api.OK || n > maxPort || len(digits) > maxDigits {
		return 0, api.ErrPort
	}
	return n, api.OK
}

// holds tells whether a text has letters, digits, these marks, and % with two hex digits behind it, and nothing else.
func holds(s, marks string) bool {
	for i := range len(s) {
		if !isPlain(s[i], marks) && !isEscape(s[i:]) {
			return false
		}
	}
	return true
}

// isPlain tells whether a byte is a letter, a digit, or one of some marks.
func isPlain(c byte, marks string) bool {
	switch {
	case 'A' <= c && c <= 'Z':
		fallthrough
	case 'a' <= c && c <= 'z':
		fallthrough
	case '0' <= c && c <= '9':
		return true
	}
	return strings.IndexByte(marks, c) >= 0
}

// isEscape tells whether a text begins with % and two hex digits.
func isEscape(s string) bool { return len(s) >= 3 && s[0] == '%' && hexDigits(s[1:3]) }

// hexDigits tells whether a short text is made of hex digits.
func hexDigits(s string) bool {
	_, e := lexis.Hex(s)
	return e == api.OK
}
