package upstream

import (
	"headrace/api"
	"headrace/body"
	"headrace/framing"
	"headrace/head"
	"headrace/lexis"
)

const (
	switching  = 101 // the status of a connection that would speak another protocol from then on
	leastFinal = 200 // statuses below are interim ones
)

// readHead reads on in a head, and tells how many bytes it read.
func (r *Reader) readHead(b []byte) (int, []byte) {
	n, whole, e := r.parser.Feed(b)
	r.wrong = e
	if whole {
		r.headRead(r.parser.Head())
	}
	return n, nil
}

// headRead goes on behind a whole head.
func (r *Reader) headRead(h api.Head) {
	switch {
	case h.Status >= leastFinal:
		r.beginBody(h)
	case h.Status == switching || r.passed == MaxInterim:
		r.parser, r.wrong = nil, api.ErrStart // nobody will ask for that head
	default:
		r.passed++
		r.parser, _ = head.New(false, r.most)
	}
}

// beginBody goes on behind the response's head. A framing that is refused does not take the head back: it was read.
func (r *Reader) beginBody(h api.Head) {
	r.known = true
	r.framing, r.wrong = framing.Response(h, r.method)
	if r.wrong != api.OK {
		return
	}
	r.body, r.wrong = body.New(r.framing, lexis.MaxSize)
	r.state = r.readBody
}

// readBody reads on in the body, and tells how many bytes it read, and the body's among them.
func (r *Reader) readBody(b []byte) (int, []byte) {
	came, n, _, e := r.body.Feed(b)
	r.wrong = e
	return n, came
}
