package proxy

import (
	"headrace/api"
	"headrace/attempt"
	"headrace/tick"
)

const greatestDraw = 1<<32 - 1

// row is which events of a kind are right, and what one does.
type row struct {
	isRight func(e api.Event) bool
	do      func(e api.Event)
}

// table is what the events do, by their kinds.
func (p *Proxy) table() map[int]row {
	return map[int]row{
		api.EvTick:    {isSkip, p.skip},
		api.EvOpen:    {isOfConn, p.open},
		api.EvBytes:   {hasBytes, p.arrive},
		api.EvEnd:     {isOfConn, p.end},
		api.EvReset:   {isOfConn, p.reset},
		api.EvUp:      {isOfConn, p.up},
		api.EvRefused: {isOfConn, p.refused},
		api.EvRoom:    {givesRoom, p.room},
		api.EvDraw:    {isDraw, p.drawn},
		api.EvDrain:   {isAny, p.drain},
	}
}

func isSkip(e api.Event) bool { return 0 <= e.N && e.N <= MaxSkip }

func isOfConn(e api.Event) bool { return e.Conn >= 0 }

func hasBytes(e api.Event) bool { return isOfConn(e) && len(e.Bytes) <= api.MaxBytes }

func givesRoom(e api.Event) bool { return isOfConn(e) && e.N >= 0 }

func isDraw(e api.Event) bool { return 0 <= e.N && e.N <= greatestDraw }

func isAny(api.Event) bool { return true }

func (p *Proxy) skip(e api.Event) { p.pass(later(p.now, e.N)) }

// open lets a client open, if its number is one that none had.
func (p *Proxy) open(e api.Event) {
	if _, ok := p.opened[e.Conn]; ok || e.Conn >= Base {
		return
	}
	if p.draining || len(p.callers) >= p.c.Clients {
		p.opened[e.Conn] = nil
		p.close(e.Conn)
		return
	}
	c := newCaller(e.Conn, p.c)
	p.opened[e.Conn] = c
	p.callers = append(p.callers, c)
}

// arrive takes bytes that came. A connection that opens has none to come.
func (p *Proxy) arrive(e api.Event) {
	if len(e.Bytes) == 0 {
		return
	}
	if c := p.opened[e.Conn]; c != nil {
		c.arrive(e.Bytes)
	}
	switch l := p.link(e.Conn); {
	case l == nil:
	case l.works():
		l.arrive(e.Bytes)
	case l.rests():
		p.close(l.number)
		p.lose(l, attempt.Broken)
	}
}

// end takes that nothing more comes. What works goes on as long as bytes wait to be read.
func (p *Proxy) end(e api.Event) {
	if c := p.opened[e.Conn]; c != nil {
		c.ended = true
	}
	switch l := p.link(e.Conn); {
	case l == nil:
	case l.works():
		l.ended = true
	case l.rests():
		p.close(l.number)
		p.lose(l, attempt.Broken)
	default:
		p.close(l.number)
		p.lose(l, attempt.Refused)
	}
}

func (p *Proxy) reset(e api.Event) {
	if c := p.opened[e.Conn]; c != nil {
		p.leave(c)
	}
	switch l := p.link(e.Conn); {
	case l == nil:
	case l.isUp:
		p.lose(l, attempt.Broken)
	default:
		p.lose(l, attempt.Refused)
	}
}

func (p *Proxy) up(e api.Event) {
	if l := p.link(e.Conn); l != nil && !l.isUp {
		p.begin(l)
	}
}

func (p *Proxy) refused(e api.Event) {
	if l := p.link(e.Conn); l != nil && !l.isUp {
		p.lose(l, attempt.Refused)
	}
}

func (p *Proxy) room(e api.Event) {
	if c := p.opened[e.Conn]; c != nil {
		c.room += min(e.N, api.MaxBytes-c.room)
	}
}

func (p *Proxy) drawn(e api.Event) {
	if len(p.draws) < api.MaxDraws {
		p.draws = append(p.draws, e.N)
	}
}

// draw is the first draw that waits.
func (p *Proxy) draw() int {
	if len(p.draws) == 0 {
		return 0
	}
	n := p.draws[0]
	p.draws = p.draws[1:]
	return n
}

func (p *Proxy) drain(api.Event) { p.draining = true }

// later is a moment later by a span.
func later(t, span int) int {
	at, _ := tick.Add(t, span)
	return at
}
