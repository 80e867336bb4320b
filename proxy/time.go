package proxy

import (
	"headrace/api"
	"headrace/tick"
)

// pass lets time go by to a moment.
func (p *Proxy) pass(to int) {
	for at, ok := p.next(); ok && at <= to; at, ok = p.next() {
		p.now = max(p.now, at)
		p.due()
		p.settle()
	}
	p.now = to
}

// next is the least moment at which there is something to do.
func (p *Proxy) next() (int, bool) {
	var l []int
	keep := func(at int, ok bool) {
		if ok {
			l = append(l, at)
		}
	}
	for host, s := range p.sites {
		keep(p.hosts.Until(host))
		keep(s.pool.Next())
	}
	keep(p.probes.Next())
	for _, c := range p.callers {
		keep(later(c.since, p.c.HeadTime), c.begun)
		if c.request != nil {
			keep(c.request.tries.Next())
		}
	}
	return tick.First(l)
}

// due does what is due by now.
func (p *Proxy) due() {
	restored, _ := p.hosts.Bring(p.now)
	for _, host := range restored {
		p.act(api.Act{Kind: api.AcRestore, Host: host})
	}
	for host, s := range p.sites {
		acts, _ := s.pool.Expire(p.now)
		p.serve(host, acts...)
	}
	p.probe()
	for _, c := range p.callers {
		if c.begun && later(c.since, p.c.HeadTime) <= p.now {
			p.turnAway(c, timedOut)
		}
	}
	for _, c := range p.callers {
		if r := c.request; r != nil {
			acts, _ := r.tries.Time(p.now, p.allows(r))
			p.follow(r, acts, true)
		}
	}
}

// probe ends and begins the hosts' probes.
func (p *Proxy) probe() {
	late, _ := p.probes.Late(p.now)
	for _, host := range late {
		p.giveUp(host)
	}
	due, _ := p.probes.Due(p.now)
	for _, host := range due {
		p.beginProbe(host)
	}
}
