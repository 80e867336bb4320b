package desk

import (
	"strconv"
	"strings"

	"headrace/api"
)

const (
	blank  = " "
	digits = "0123456789abcdef"
)

func number(n int) string { return strconv.Itoa(n) }

// joined is a line of words, of which the last one may be an empty text.
func joined(words ...string) string { return strings.Join(words, blank) }

// textOf is the text that stands for bytes.
func textOf(b []byte) string {
	var s strings.Builder
	for _, x := range b {
		switch {
		case x == '\\':
			s.WriteString(`\\`)
		case x == '\r':
			s.WriteString(`\r`)
		case x == '\n':
			s.WriteString(`\n`)
		case ' ' <= x && x <= '~':
			s.WriteByte(x)
		default:
			s.WriteString(`\x`)
			s.WriteByte(digits[x>>4])
			s.WriteByte(digits[x&15])
		}
	}
	return s.String()
}

// bytesOf are the bytes for which a text stands. It gives up where they would be written in another way.
func bytesOf(text string) []byte {
	var b []byte
	for rest := text; rest != ""; {
		var x byte
		x, rest = first(rest)
		b = append(b, x)
	}
	if textOf(b) != text {
		giveUp(api.ErrForm)
	}
	return b
}

// first is the byte for which the front of a text stands, and what is behind it.
func first(text string) (byte, string) {
	if text[0] != '\\' {
		return text[0], text[1:]
	}
	if len(text) < 2 {
		giveUp(api.ErrForm)
	}
	switch text[1] {
	case 'r':
		return '\r', text[2:]
	case 'n':
		return '\n', text[2:]
	case 'x':
		return hex(text[2:])
	}
	return text[1], text[2:]
}

// hex is the byte that two hex digits say, and what is behind them. Where they are none it is a byte that no such text stands for.
func hex(text string) (byte, string) {
	if len(text) < 2 {
		giveUp(api.ErrForm)
	}
	x, _ := strconv.ParseUint(text[:2], 16, 8)
	return byte(x), text[2:]
}
