package body

import (
	"headrace/api"
	"headrace/chunked"
)

// framed reads a body as one framing says.
type framed interface {
	read(b []byte) ([]byte, int) // reads on: the body's bytes, and how many bytes were read
	ended()                      // takes note of the connection's end
	told() *tally
}

// framedBy is the reader of a framing that is right.
func framedBy(f api.Framing, most int) framed {
	switch f.Kind {
	case api.FrLength:
		return &measured{tally: tally{whole: f.Length == 0}, length: f.Length}
	case api.FrChunked:
		d, _ := chunked.New(most)
		return &parted{Decoder: d}
	case api.FrClose:
		return &closed{most: most}
	}
	return &over{tally{whole: true}}
}

// tally is what is counted and known of a body, whatever its framing.
type tally struct {
	got   int // bytes of the body
	whole bool
	wrong api.Errno
}

// told is the tally itself.
func (t *tally) told() *tally { return t }

// take counts as many of the first bytes as the body may have, so many in all, and tells them.
func (t *tally) take(b []byte, most int) []byte {
	body := append([]byte(nil), b[:min(len(b), most-t.got)]...)
	t.got += len(body)
	return body
}

// ended cuts the body off: so says every framing that tells the body's end itself.
func (t *tally) ended() { t.wrong = api.ErrCut }

// over reads nothing more, and no end cuts it off. A body without bytes is so from its beginning on.
type over struct{ tally }

func (r *over) read([]byte) ([]byte, int) { return nil, 0 }

func (r *over) ended() {}

// measured reads a body of a length.
type measured struct {
	tally
	length int
}

func (r *measured) read(b []byte) ([]byte, int) {
	body := r.take(b, r.length)
	r.whole = r.got == r.length
	return body, len(body)
}

// parted reads a body in chunks.
type parted struct {
	tally
	*chunked.Decoder
}

func (r *parted) read(b []byte) ([]byte, int) {
	body, n, whole, wrong := r.Feed(b)
	r.got += len(body)
	r.whole, r.wrong = whole, wrong
	return body, n
}

// closed reads a body that ends with its connection.
type closed struct {
	tally
	most int
}

func (r *closed) read(b []byte) ([]byte, int) {
	body := r.take(b, r.most)
	if len(body) == len(b) {
		return body, len(body)
	}
	r.wrong = api.ErrLong
	return body, len(body) + 1 // with the one that is too many
}

func (r *closed) ended() { r.whole = true }
