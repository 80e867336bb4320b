package proxy

import (
	"headrace/api"
	"headrace/attempt"
	"headrace/framing"
	"headrace/route"
	"headrace/write"
)

// The statuses of own answers, but those that other layers tell.
const (
	badRequest  = 400
	notFound    = 404
	timedOut    = 408
	tooMany     = 429
	badGateway  = 502
	unavailable = 503
)

// request is one that a client sent, until its answer is whole or its client is gone.
type request struct {
	number   int
	from     *caller
	lane     int // its route; none of one without
	method   string
	minor    int
	keep     bool   // it asks to be kept
	onward   []byte // its head and body, as they go on
	length   int    // of the body
	admitted bool
	tries    *attempt.Request
	made     []int              // its attempts' numbers, those that are over too
	wasOn    [api.MaxHosts]bool // the hosts that an attempt was on
	shape    write.Shape        // of a host's answer that has begun
}

// asker is to whom its answer goes.
func (r *request) asker() write.Client {
	return write.Client{Method: r.method, Minor: r.minor, Keep: r.keep}
}

// start starts a client's request that is whole.
func (p *Proxy) start(c *caller) {
	h, body, _ := c.reader.Request()
	r := &request{number: p.parsed, from: c, method: h.Method, minor: h.Minor, length: len(body)}
	r.keep = framing.Keep(h) && !p.draining
	p.parsed++
	c.request = r
	n, e := route.Find(p.c, h)
	if e != api.OK {
		n = none
	}
	r.lane = n
	p.act(api.Act{Kind: api.AcParsed, Conn: c.number, Req: r.number, N: n})
	switch {
	case e == api.ErrNone:
		p.answer(r, notFound)
	case e != api.OK || r.write(h, body) != api.OK:
		r.keep = false
		p.answer(r, badRequest)
	default:
		p.admit(r)
	}
}

// write makes of a head and a body what goes on.
func (r *request) write(h api.Head, body []byte) api.Errno {
	n := none
	if f, _ := framing.Request(h); f.Kind != api.FrNone {
		n = len(body)
	}
	text, e := write.Request(h, by, n)
	r.onward = append([]byte(text), body...)
	return e
}

// admit lets a request in, if its route does, and makes its first attempt.
func (p *Proxy) admit(r *request) {
	l := p.lanes[r.lane]
	if ok, _ := l.bucket.Take(p.now); !ok {
		p.answer(r, tooMany)
		return
	}
	if !l.gate.Enter() {
		p.answer(r, unavailable)
		return
	}
	if ok, _ := l.breaker.Can(p.now); !ok {
		l.gate.Leave()
		p.answer(r, unavailable)
		return
	}
	l.budget.Admit(p.now)
	r.admitted = true
	p.act(api.Act{Kind: api.AcAdmit, Conn: r.from.number, Req: r.number, N: r.lane})
	var acts []attempt.Act
	r.tries, acts, _ = attempt.Begin(plan(p.c.Routes[r.lane], r.method), p.now)
	p.follow(r, acts, false)
}

// plan is what the attempts of a route's request may be.
func plan(r api.Route, method string) attempt.Plan {
	return attempt.Plan{Retries: r.Retries, Hedges: r.Hedges, HedgeAfter: r.HedgeAfter, PerTry: r.PerTry, Total: r.Total, Safe: isSafe(method)}
}

// isSafe tells whether a request of a method may be sent again.
func isSafe(method string) bool {
	switch method {
	case "GET", "HEAD", "PUT", "DELETE", "OPTIONS", "TRACE":
		return true
	}
	return false
}

// answer gives an own answer.
func (p *Proxy) answer(r *request, status int) {
	p.act(api.Act{Kind: api.AcAnswer, Conn: r.from.number, Req: r.number, Status: status})
	r.from.local(status, r.asker())
	p.done(r, r.keep)
}

// done ends a request whose answer is whole.
func (p *Proxy) done(r *request, keep bool) {
	c := r.from
	p.act(api.Act{Kind: api.AcDone, Conn: c.number, Req: r.number})
	p.release(r)
	c.reader.Answered(keep)
	c.request = nil
	if !keep {
		c.shut()
	}
}

// abandon ends a request whose client is gone.
func (p *Proxy) abandon(r *request) {
	for _, number := range r.made {
		if s, ok := p.sendings[number]; ok {
			p.letGo(s)
		}
	}
	p.release(r)
}

// release lets a request out of its route's gate.
func (p *Proxy) release(r *request) {
	if r.admitted {
		p.lanes[r.lane].gate.Leave()
	}
}
