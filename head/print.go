package head

import (
	"slices"
	"strconv"
	"strings"

	"headrace/api"
)

const lineEnd = "\r\n"

// Print is a head's text.
func Print(h api.Head) (string, api.Errno) {
	s := text(h)
	// Whatever would end a line, or be read as something else, makes another head of it.
	if again, _, e := Parse(h.Request, []byte(s)); e != api.OK || !same(again, h) {
		return "", api.ErrForm
	}
	return s, api.OK
}

// text is what a head would be printed as, were it one. Of one that is too long it may be the front alone.
func text(h api.Head) string {
	var b strings.Builder
	b.WriteString(firstLine(h))
	b.WriteString(lineEnd)
	for _, f := range h.Fields {
		// It is too long already to be read: many more long fields need not be put together.
		if b.Len() > api.MaxHead {
			break
		}
		b.WriteString(f.Name)
		b.WriteString(": ")
		b.WriteString(f.Value)
		b.WriteString(lineEnd)
	}
	b.WriteString(lineEnd)
	return b.String()
}

// firstLine is a head's first line, without its end.
func firstLine(h api.Head) string {
	version := protocol + "1." + strconv.Itoa(h.Minor)
	if h.Request {
		return h.Method + blank + h.Target + blank + version
	}
	return version + blank + strconv.Itoa(h.Status) + blank + h.Reason
}

// same tells whether two heads are the same.
func same(a, b api.Head) bool {
	return a.Request == b.Request && a.Method == b.Method && a.Target == b.Target && a.Minor == b.Minor &&
		a.Status == b.Status && a.Reason == b.Reason && slices.Equal(a.Fields, b.Fields)
}
