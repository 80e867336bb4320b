package proxy

import "slices"

// settle does what can be done without time or an event, until there is nothing left.
func (p *Proxy) settle() {
rounds:
	for {
		did := false
		for _, l := range slices.Clone(p.links) {
			did = p.pump(l) || did
		}
		for _, c := range p.callers {
			did = p.read(c) || did
		}
		for _, c := range slices.Clone(p.callers) {
			did = p.flush(c) || did
		}
		if did {
			continue rounds
		}
		return
	}
}
