package proxy

import (
	"slices"

	"headrace/api"
	"headrace/attempt"
	"headrace/pick"
	"headrace/pool"
	"headrace/write"
)

const (
	first = 0 // the kind of a request's first attempt
	retry = 1 // the kind of one for which a budget is asked, as of a hedge

	relayed = 1 // an answer that is a host's, as its act tells it

	halfOpen = 3 // a breaker's state
	mended   = 1 // what an attempt's end made of a breaker
	broke    = 2
)

// sending is an attempt that runs.
type sending struct {
	number  int // among all
	id      int // among its request's
	request *request
	host    int
	since   int
	link    *link // none, while it waits for one
	judged  bool  // the breaker knows how it went
	won     bool  // its answer goes back
}

// follow does what a request's attempts ask for; late: since time went by.
func (p *Proxy) follow(r *request, acts []attempt.Act, late bool) {
	for _, a := range acts {
		switch a.Kind {
		case attempt.Try:
			p.try(r, a.ID, a.N)
		case attempt.Cancel:
			s := p.sendings[r.made[a.ID]]
			if late {
				p.judge(s, false)
			}
			p.letGo(s)
		case attempt.Win:
			p.win(p.sendings[r.made[a.ID]])
		case attempt.Answer:
			p.answer(r, a.N)
		}
	}
}

// try makes an attempt of a kind; where it can't be made it fails at once.
func (p *Proxy) try(r *request, id, kind int) {
	number := p.made
	p.made++
	r.made = append(r.made, number)
	l, among := p.lanes[r.lane], p.candidates(r)
	if len(among) == 0 || !l.lets(p.now, kind) {
		p.failed(r, id, attempt.Busy)
		return
	}
	host := p.pick(among)
	l.breaker.Allow(p.now)
	if kind != first {
		l.budget.Allow(p.now)
	}
	p.act(api.Act{Kind: api.AcTry, Conn: r.from.number, Host: host, Req: r.number, N: kind})
	s := &sending{number: number, id: id, request: r, host: host, since: p.now}
	p.sendings[number] = s
	p.sites[host].running++
	r.wasOn[host] = true
	act, _ := p.sites[host].pool.Ask(p.now, number)
	if act.Kind == pool.Full {
		p.fail(s, attempt.Busy)
		return
	}
	p.serve(host, act)
}

// lets tells whether a route lets an attempt of a kind be made.
func (l lane) lets(now, kind int) bool {
	if ok, _ := l.breaker.Can(now); !ok {
		return false
	}
	if kind == first {
		return true
	}
	ok, _ := l.budget.Can(now)
	return ok
}

// allows tells whether a retry or a hedge of a request may be made.
func (p *Proxy) allows(r *request) bool {
	return p.lanes[r.lane].lets(p.now, retry) && len(p.usable(r)) > 0
}

// usable are the hosts that a request may be sent to, rising.
func (p *Proxy) usable(r *request) []int {
	l, _ := p.hosts.Usable(p.now)
	return slices.DeleteFunc(l, func(host int) bool { return !slices.Contains(p.c.Routes[r.lane].Hosts, host) })
}

// candidates are those of them that are to be drawn from.
func (p *Proxy) candidates(r *request) []int {
	all := p.usable(r)
	var fresh []int
	for _, host := range all {
		if !r.wasOn[host] {
			fresh = append(fresh, host)
		}
	}
	if len(fresh) == 0 {
		return all
	}
	return fresh
}

// pick is the better one of two hosts that are drawn.
func (p *Proxy) pick(among []int) int {
	if len(among) == 1 {
		return among[0]
	}
	var loads []int
	for _, host := range among {
		load, _ := p.sites[host].score.Load(p.sites[host].running)
		loads = append(loads, load)
	}
	a := p.draw()
	i, _ := pick.Pick(loads, a, p.draw())
	return among[i]
}

// judge tells the breaker and the hosts how an attempt went.
func (p *Proxy) judge(s *sending, ok bool) {
	s.judged = true
	p.inform(s.request.lane, ok)
	if ejected, _ := p.hosts.Result(p.now, s.host, ok); ejected {
		p.act(api.Act{Kind: api.AcEject, Host: s.host})
	}
}

// inform tells a route's breaker how an attempt went.
func (p *Proxy) inform(lane int, ok bool) {
	switch change, _ := p.lanes[lane].breaker.Done(p.now, ok); change {
	case mended:
		p.act(api.Act{Kind: api.AcMend, N: lane})
	case broke:
		p.act(api.Act{Kind: api.AcBreak, N: lane})
	}
}

// letGo lets an attempt go. A breaker that waits for how it went would else wait for good.
func (p *Proxy) letGo(s *sending) {
	p.forget(s)
	acts, _ := p.sites[s.host].pool.Drop(p.now, s.number)
	lane := s.request.lane
	if state, _ := p.lanes[lane].breaker.State(p.now); state == halfOpen && !s.judged {
		p.inform(lane, false)
	}
	p.serve(s.host, acts...)
}

// forget lets an attempt run no longer.
func (p *Proxy) forget(s *sending) {
	p.sites[s.host].running--
	delete(p.sendings, s.number)
}

// fail ends an attempt that failed.
func (p *Proxy) fail(s *sending, why int) {
	p.forget(s)
	if why != attempt.Busy {
		p.judge(s, false)
	}
	p.failed(s.request, s.id, why)
}

// failed goes on behind an attempt that failed.
func (p *Proxy) failed(r *request, id, why int) {
	acts, _ := r.tries.Fail(p.now, id, why, p.allows(r))
	p.follow(r, acts, false)
}

// win begins the answer of an attempt whose head is there.
func (p *Proxy) win(s *sending) {
	r := s.request
	h, _ := s.link.reader.Head()
	text, shape, e := write.Response(h, by, r.asker())
	if e != api.OK {
		p.letGo(s)
		p.answer(r, badGateway)
		return
	}
	s.won, r.shape = true, shape
	p.act(api.Act{Kind: api.AcAnswer, Conn: r.from.number, Req: r.number, Status: h.Status, N: relayed})
	r.from.out = append(r.from.out, text...)
}
