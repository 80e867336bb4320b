package write

import (
	"strconv"

	"headrace/api"
	"headrace/head"
)

// Local is an answer of the proxy's own.
func Local(status int, c Client) (string, api.Errno) {
	reason := Reason(status)
	if reason == "" || !c.isRight() {
		return "", api.ErrArg
	}
	body := strconv.Itoa(status) + " " + reason + "\n"
	l := []api.Field{{Name: length, Value: strconv.Itoa(len(body))}}
	l = append(l, ends(Shape{Keep: c.Keep}, c)...)
	text, e := head.Print(api.Head{Minor: 1, Status: status, Reason: reason, Fields: l})
	if e == api.OK && c.Method != "HEAD" {
		text += body
	}
	return text, e
}

// Reason is an own answer's reason.
func Reason(status int) string {
	switch status / 100 {
	case 4:
		switch status {
		case 400:
			return "Bad Request"
		case 404:
			return "Not Found"
		case 408:
			return "Request Timeout"
		case 413:
			return "Content Too Large"
		case 429:
			return "Too Many Requests"
		case 431:
			return "Request Header Fields Too Large"
		}
		fallthrough // the proxy blames a client for nothing else
	case 5:
		switch status {
		case 502:
			return "Bad Gateway"
		case 503:
			return "Service Unavailable"
		case 504:
			return "Gateway Timeout"
		}
		fallthrough // nor a host
	default:
		return ""
	}
}
