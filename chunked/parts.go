package chunked

import (
	"strings"

	"headrace/api"
	"headrace/fields"
	"headrace/lexis"
)

// sizeLine reads a chunk's size line, or the last chunk.
func (d *Decoder) sizeLine(p *piece) api.Errno { return d.readLine(p, api.MaxLine, d.sized) }

// bytes reads a chunk's bytes, and behind them a line's end, ahead of which not one byte more may stand.
func (d *Decoder) bytes(p *piece) api.Errno {
	d.left -= p.take(d.left)
	// If bytes are still to come, nothing is left of the piece.
	return d.readLine(p, 0, d.chunkRead)
}

// trailerLine reads a trailer's line, or the empty one behind all.
func (d *Decoder) trailerLine(p *piece) api.Errno { return d.readLine(p, api.MaxLine, d.trailer) }

// readLine reads on in a line of at most so many bytes, and hands it on where it ends.
func (d *Decoder) readLine(p *piece, most int, ended func(line string) api.Errno) api.Errno {
	for len(p.rest) > 0 {
		c := p.next()
		switch {
		case d.ending != (c == '\n'):
			return api.ErrChunk
		case d.ending:
			line := string(d.line)
			d.line, d.ending = d.line[:0], false
			return ended(line)
		case c == '\r':
			d.ending = true
		case len(d.line) == most:
			return api.ErrChunk
		default:
			d.line = append(d.line, c)
		}
	}
	return api.OK
}

// sized begins what a size line says: a chunk's bytes, or the trailers.
func (d *Decoder) sized(line string) api.Errno {
	digits, extension, _ := strings.Cut(line, ";")
	size, e := lexis.Hex(digits)
	if e != api.OK || !isExtension(extension) {
		return api.ErrChunk
	}
	if size > d.room {
		return api.ErrLong
	}
	d.room -= size
	d.left = size
	d.state = d.bytes
	if size == 0 {
		d.state = d.trailerLine
	}
	return api.OK
}

// chunkRead begins the next chunk.
func (d *Decoder) chunkRead(string) api.Errno {
	d.state = d.sizeLine
	return api.OK
}

// trailer takes a trailer, or ends the body.
func (d *Decoder) trailer(line string) api.Errno {
	if line == "" {
		d.whole = true
		return api.OK
	}
	name, text, colon := strings.Cut(line, ":")
	// A name of its own does not keep the whole line.
	f := api.Field{Name: strings.Clone(name), Value: lexis.Trim(text)}
	if !colon || len(d.trailers) == api.MaxFields || fields.Check([]api.Field{f}) != api.OK {
		return api.ErrChunk
	}
	d.trailers = append(d.trailers, f)
	return api.OK
}

// isExtension tells whether a text may stand behind a size and its semicolon.
func isExtension(s string) bool {
	// It has a value's bytes, but it may begin and end with blanks.
	return lexis.Value(lexis.Trim(s))
}
