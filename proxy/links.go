package proxy

import (
	"bytes"
	"cmp"
	"slices"

	"headrace/api"
	"headrace/attempt"
	"headrace/chunked"
	"headrace/pool"
	"headrace/score"
	"headrace/upstream"
)

const (
	most      = 4096 // bytes that are read at a time
	leastFail = 500  // statuses from it on are a host's failures
	ofProbe   = -1   // a pool has no connection of this number
)

// link is a connection to a host that was asked for.
type link struct {
	number  int
	host    int
	own     int // its number in the host's pool
	isUp    bool
	gone    bool     // it is not there any more
	sending *sending // for which it opens or works
	reader  *upstream.Reader
	isRead  bool   // the head was told
	in      []byte // waits to be read
	ended   bool
}

func (l *link) isProbe() bool { return l.own == ofProbe }

func (l *link) works() bool { return l.isUp && (l.isProbe() || l.sending != nil) }

func (l *link) rests() bool { return l.isUp && !l.works() }

// arrive takes bytes that came.
func (l *link) arrive(b []byte) {
	if !l.ended {
		l.in = append(l.in, b...)
	}
}

// link is a host's connection of a number; nil, if there is none.
func (p *Proxy) link(number int) *link {
	i, ok := slices.BinarySearchFunc(p.links, number, func(l *link, n int) int { return cmp.Compare(l.number, n) })
	if !ok {
		return nil
	}
	return p.links[i]
}

// ask asks for a connection.
func (p *Proxy) ask(host, own int) *link {
	l := &link{number: Base + p.asked, host: host, own: own}
	p.asked++
	p.links = append(p.links, l)
	p.act(api.Act{Kind: api.AcOpen, Conn: l.number, Host: host})
	return l
}

// remove lets a connection be there no longer.
func (p *Proxy) remove(l *link) {
	l.gone = true
	p.links = slices.DeleteFunc(p.links, func(x *link) bool { return x == l })
	delete(p.sites[l.host].links, l.own)
}

// serve does what a host's pool asks for.
func (p *Proxy) serve(host int, acts ...pool.Act) {
	links := p.sites[host].links
	for _, a := range acts {
		switch s := p.sendings[a.Who]; a.Kind {
		case pool.Open:
			l := p.ask(host, a.Conn)
			links[a.Conn] = l
			s.link, l.sending = l, s
		case pool.Reuse:
			l := links[a.Conn]
			s.link, l.sending = l, s
			p.send(l)
		case pool.Close:
			l := links[a.Conn]
			p.close(l.number)
			p.remove(l)
		}
	}
}

// begin begins the work of a connection that is there now.
func (p *Proxy) begin(l *link) {
	l.isUp = true
	if l.isProbe() {
		p.sendProbe(l)
		return
	}
	p.sites[l.host].pool.Up(l.own)
	p.send(l)
}

// send sends a request over a connection.
func (p *Proxy) send(l *link) {
	r := l.sending.request
	l.reader, _ = upstream.New(r.method, p.c.MaxHead)
	l.isRead = false
	p.act(api.Act{Kind: api.AcWrite, Conn: l.number, Bytes: bytes.Clone(r.onward)})
}

// lose ends a connection that is gone; why: what its attempt, if it has one, fails by.
func (p *Proxy) lose(l *link, why int) {
	p.remove(l)
	if l.isProbe() {
		p.probed(l.host, false)
		return
	}
	_, acts, _ := p.sites[l.host].pool.Gone(p.now, l.own)
	p.serve(l.host, acts...)
	switch s := l.sending; {
	case s == nil:
	case s.won:
		p.forget(s)
		s.request.from.shut()
	default:
		p.fail(s, why)
	}
}

// breaks closes a connection that is of no more use.
func (p *Proxy) breaks(l *link) {
	p.close(l.number)
	p.lose(l, attempt.Broken)
}

// pump reads on from a connection, and tells whether it did something.
func (p *Proxy) pump(l *link) bool {
	switch {
	case l.gone || !l.works():
		return false
	case len(l.in) > 0:
		if !p.mayRead(l) {
			return false
		}
		p.readOn(l)
	case l.ended:
		p.readEnd(l)
	default:
		return false
	}
	return true
}

// mayRead tells whether what would be read has somewhere to go.
func (p *Proxy) mayRead(l *link) bool {
	s := l.sending
	return s == nil || !s.won || len(s.request.from.out) < p.c.MaxOut
}

// readOn reads what waits.
func (p *Proxy) readOn(l *link) {
	n, body, e := l.reader.Read(l.in[:min(len(l.in), most)])
	l.in = behind(l.in, n)
	if l.isProbe() {
		p.readProbe(l, e)
		return
	}
	// What is wrong behind a right head does not take it back, however the bytes were parted.
	if !l.isRead && l.reader.Framing().Kind != 0 {
		p.headRead(l)
	}
	if l.gone {
		return
	}
	if l.sending.won {
		l.sending.request.forward(body)
	}
	p.look(l, e)
}

// readEnd reads that the connection ended.
func (p *Proxy) readEnd(l *link) {
	e := l.reader.End()
	if l.isProbe() {
		p.readProbe(l, e)
		return
	}
	p.look(l, e)
}

// look ends what is wrong, or whole.
func (p *Proxy) look(l *link, e api.Errno) {
	switch {
	case e != api.OK:
		p.breaks(l)
	case l.reader.Whole():
		p.finish(l)
	}
}

// headRead goes on behind a response's head.
func (p *Proxy) headRead(l *link) {
	s := l.sending
	l.isRead = true
	h, _ := l.reader.Head()
	p.sites[l.host].score.Add(min(p.now-s.since, score.MaxSample))
	p.judge(s, h.Status < leastFail)
	acts, _ := s.request.tries.Head(p.now, s.id, h.Status, p.allows(s.request))
	p.follow(s.request, acts, false)
}

// forward lets a part of the answer's body wait to be written.
func (r *request) forward(body []byte) {
	if r.shape.Chunked {
		body = chunked.Chunk(body)
	}
	r.from.out = append(r.from.out, body...)
}

// finish ends an answer whose response is whole.
func (p *Proxy) finish(l *link) {
	s := l.sending
	r := s.request
	if r.shape.Chunked {
		last, _ := chunked.Last(nil)
		r.from.out = append(r.from.out, last...)
	}
	p.forget(s)
	keep := l.reader.Again() && len(l.in) == 0 && !l.ended
	l.sending, l.reader = nil, nil
	acts, _ := p.sites[l.host].pool.Done(p.now, l.own, keep)
	p.serve(l.host, acts...)
	p.done(r, r.shape.Keep)
}
