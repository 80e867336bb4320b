package head

import (
	"strings"

	"headrace/api"
	"headrace/fields"
	"headrace/lexis"
)

const (
	blank     = " "
	blanks    = "\t "
	protocol  = "HTTP/"
	mostEmpty = 4 // lines ahead of a request's first one
)

// requestLine reads a request's first line, or an empty one ahead of it.
func (p *Parser) requestLine(line string) error {
	if line == "" && p.passed < mostEmpty {
		p.passed++
		return nil
	}
	method, rest, _ := strings.Cut(line, blank)
	target, version, _ := strings.Cut(rest, blank)
	if !lexis.Token(method) || !isTarget(target) {
		return api.ErrStart
	}
	p.head.Method, p.head.Target = method, target
	return p.begun(version)
}

// responseLine reads a response's first line.
func (p *Parser) responseLine(line string) error {
	version, rest, _ := strings.Cut(line, blank)
	status, reason, ok := strings.Cut(rest, blank)
	if !ok || !isStatus(status) || !isReason(reason) {
		return api.ErrStart
	}
	p.head.Status, _ = lexis.Number(status)
	p.head.Reason = reason
	return p.begun(version)
}

// begun ends a first line with which nothing but its version can be wrong.
func (p *Parser) begun(version string) error {
	switch {
	case !isVersion(version):
		return api.ErrStart
	case version == protocol+"1.1":
		p.head.Minor = 1
	case version != protocol+"1.0":
		return api.ErrVersion
	}
	p.state = p.fieldLine
	return nil
}

// fieldLine reads a field's line, or the empty one that ends the head.
func (p *Parser) fieldLine(line string) error {
	if line == "" {
		p.whole = true
		return nil
	}
	name, text, colon := strings.Cut(line, ":")
	switch {
	case strings.IndexByte(blanks, line[0]) >= 0:
		return api.ErrFold
	case !colon:
		return api.ErrColon
	case strings.TrimRight(name, blanks) != name:
		return api.ErrSpace
	}
	f := api.Field{Name: name, Value: lexis.Trim(text)}
	if e := fields.Check([]api.Field{f}); e != api.OK {
		return e
	}
	if len(p.head.Fields) == api.MaxFields {
		return api.ErrLarge
	}
	p.head.Fields = append(p.head.Fields, f)
	return nil
}

// isTarget tells whether a text may stand as a target in a first line.
func isTarget(s string) bool {
	for i := range len(s) {
		if s[i] <= ' ' || s[i] > '~' {
			return false
		}
	}
	return s != ""
}

// isStatus tells whether a text is a status.
func isStatus(s string) bool {
	n, e := lexis.Number(s)
	return e == api.OK && len(s) == 3 && n >= 100 && n <= 599
}

// isReason tells whether a text is a reason.
func isReason(s string) bool {
	// A reason has a value's bytes, but it may begin and end with blanks.
	return lexis.Value(lexis.Trim(s))
}

// isVersion tells whether a text has the form of a version, whichever it is.
func isVersion(s string) bool {
	digits, ok := strings.CutPrefix(s, protocol)
	return ok && len(digits) == 3 && isDigit(digits[0]) && digits[1] == '.' && isDigit(digits[2])
}

// isDigit tells whether a byte is a digit.
func isDigit(c byte) bool { return '0' <= c && c <= '9' }
