package proxy

import (
	"headrace/api"
	"headrace/attempt"
	"headrace/upstream"
)

const (
	leastBad = 400 // statuses from it on end a probe badly

	healthy = 1 // what a probe's end made of a host
	down    = 2
)

// beginProbe begins a host's probe.
func (p *Proxy) beginProbe(host int) { p.sites[host].probe = p.ask(host, ofProbe) }

// sendProbe sends a probe's request. It is not printed as a head: its path may be as long as a line.
func (p *Proxy) sendProbe(l *link) {
	l.reader, _ = upstream.New("GET", p.c.MaxHead)
	text := "GET " + p.c.Path + " HTTP/1.1\r\nHost: " + p.c.Hosts[l.host].Name + "\r\nConnection: close\r\n\r\n"
	p.act(api.Act{Kind: api.AcWrite, Conn: l.number, Bytes: []byte(text)})
}

// readProbe ends a probe whose response is wrong, or whole.
func (p *Proxy) readProbe(l *link, e api.Errno) {
	if e == api.OK && !l.reader.Whole() {
		return
	}
	h, _ := l.reader.Head()
	p.close(l.number)
	p.remove(l)
	p.probed(l.host, e == api.OK && h.Status < leastBad)
}

// giveUp ends a host's probe that takes too long.
func (p *Proxy) giveUp(host int) {
	l := p.sites[host].probe
	p.close(l.number)
	p.lose(l, attempt.Late)
}

// probed tells how a probe ended.
func (p *Proxy) probed(host int, ok bool) {
	p.sites[host].probe = nil
	switch change, _ := p.probes.Answer(p.now, host, ok); change {
	case healthy:
		p.hosts.Mark(p.now, host, true)
		p.act(api.Act{Kind: api.AcHealthy, Host: host})
	case down:
		p.hosts.Mark(p.now, host, false)
		p.act(api.Act{Kind: api.AcDown, Host: host})
	}
}
