package trace

import (
	"slices"

	"headrace/api"
	"headrace/write"
)

// every stands for acts of all kinds.
const every = 0

// From whom an answer is, as its act tells it.
const (
	own     = 0
	relayed = 1
)

const (
	leastStatus    = 200
	greatestStatus = 599
	wholeShare     = 100
)

// rule is one of the chapter's, as far as it is said of acts of one kind.
type rule struct {
	number, kind int
	keeps        func(s *state, a api.Act) bool
}

// rules are all of them, rising by their numbers. A rule's function may trust in those ahead of it; it is asked once of an act that breaks none ahead of it, so that it may take what the act takes.
func rules() []rule {
	return []rule{
		{1, every, (*state).inTime},
		{2, every, (*state).isKind},
		{2, api.AcOpen, (*state).isNextLink},
		{2, api.AcWrite, (*state).mayWrite},
		{2, api.AcClose, (*state).isThere},
		{2, api.AcParsed, (*state).ofClient},
		{2, api.AcAdmit, (*state).ofClient},
		{2, api.AcAnswer, (*state).ofClient},
		{2, api.AcDone, (*state).ofClient},
		{3, api.AcOpen, (*state).belowCap},
		{3, api.AcWrite, (*state).withinClients},
		{3, api.AcParsed, (*state).withinClients},
		{3, api.AcAdmit, (*state).withinClients},
		{3, api.AcAnswer, (*state).withinClients},
		{3, api.AcDone, (*state).withinClients},
		{4, api.AcParsed, (*state).isNextRequest},
		{5, api.AcAdmit, (*state).mayAdmit},
		{5, api.AcTry, (*state).mayTry},
		{6, api.AcAdmit, (*state).hasToken},
		{7, api.AcAdmit, (*state).hasRoom},
		{8, api.AcTry, (*state).inBudget},
		{9, api.AcTry, (*state).unbroken},
		{9, api.AcBreak, (*state).isRoute},
		{9, api.AcMend, (*state).isRoute},
		{10, api.AcTry, (*state).isUsable},
		{10, api.AcEject, (*state).mayEject},
		{10, api.AcRestore, (*state).isEjected},
		{10, api.AcDown, (*state).isUp},
		{10, api.AcHealthy, (*state).isDown},
		{11, api.AcParsed, (*state).goesOn},
		{11, api.AcAnswer, (*state).goesOn},
		{11, api.AcAnswer, (*state).mayAnswer},
		{11, api.AcDone, (*state).isAnswered},
	}
}

// broken is the least rule that an act breaks; 0, if it breaks none.
func (s *state) broken(all []rule, a api.Act) int {
	for _, r := range all {
		if (r.kind == every || r.kind == a.Kind) && !r.keeps(s, a) {
			return r.number
		}
	}
	return 0
}

func (s *state) inTime(a api.Act) bool {
	return max(s.last, s.began) <= a.At && a.At <= s.now
}

func (s *state) isKind(a api.Act) bool { return api.AcOpen <= a.Kind && a.Kind <= api.AcMend }

func (s *state) isNextLink(a api.Act) bool { return a.Conn == Base+s.asked && s.isHost(a) }

func (s *state) mayWrite(a api.Act) bool {
	return len(a.Bytes) > 0 && (s.ofClient(a) || s.links[a.Conn].up)
}

func (s *state) isThere(a api.Act) bool {
	_, ok := s.links[a.Conn]
	return ok || s.ofClient(a)
}

func (s *state) ofClient(a api.Act) bool { return s.clients[a.Conn].there }

// belowCap lets there be one more beside the host's cap: its probe's.
func (s *state) belowCap(a api.Act) bool { return s.hosts[a.Host].links <= s.c.Hosts[a.Host].Cap }

func (s *state) withinClients(a api.Act) bool { return !s.clients[a.Conn].beyond }

// rests tells whether a client has no open request.
func (s *state) rests(a api.Act) bool { return s.clients[a.Conn].open == none }

func (s *state) isNextRequest(a api.Act) bool {
	return a.Req == s.parsed && none <= a.N && a.N < len(s.routes) && s.rests(a)
}

func (s *state) mayAdmit(a api.Act) bool {
	q, ok := s.requests[a.Req]
	return ok && q.conn == a.Conn && q.route == a.N && q.route != none && !q.admitted && !q.answered
}

func (s *state) mayTry(a api.Act) bool {
	q, ok := s.requests[a.Req]
	if !ok || !q.admitted || q.answered {
		return false
	}
	r := s.c.Routes[q.route]
	return q.mayTry(a.N, r) && slices.Contains(r.Hosts, a.Host)
}

// mayTry tells whether an attempt of a kind may be the next one.
func (q request) mayTry(kind int, r api.Route) bool {
	switch kind {
	case first:
		return !q.isTried()
	case retry:
		return q.isTried() && q.tries[retry] < r.Retries
	case hedge:
		return q.isTried() && q.tries[hedge] < r.Hedges
	}
	return false
}

// isTried tells whether there was an attempt: the first one is ahead of all others.
func (q request) isTried() bool { return q.tries[first] > 0 }

func (s *state) hasToken(a api.Act) bool {
	ok, _ := s.routes[a.N].bucket.Take(a.At)
	return ok
}

func (s *state) hasRoom(a api.Act) bool { return s.routes[a.N].gate.Enter() }

func (s *state) inBudget(a api.Act) bool {
	if a.N == first {
		return true
	}
	ok, _ := s.tried(a).budget.Allow(a.At)
	return ok
}

func (s *state) unbroken(a api.Act) bool {
	x := s.tried(a)
	return a.At >= x.until && (!x.few || x.probes < s.c.Routes[s.requests[a.Req].route].Probes)
}

// tried is the route of the request of an attempt.
func (s *state) tried(a api.Act) *route { return &s.routes[s.requests[a.Req].route] }

func (s *state) isRoute(a api.Act) bool { return 0 <= a.N && a.N < len(s.routes) }

func (s *state) isHost(a api.Act) bool { return 0 <= a.Host && a.Host < len(s.hosts) }

func (s *state) isUsable(a api.Act) bool {
	return !s.hosts[a.Host].ejected && !s.hosts[a.Host].down
}

func (s *state) mayEject(a api.Act) bool {
	return s.isHost(a) && !s.hosts[a.Host].ejected && wholeShare*(s.ejected+1) <= s.c.Share*len(s.hosts)
}

func (s *state) isEjected(a api.Act) bool { return s.isHost(a) && s.hosts[a.Host].ejected }

func (s *state) isUp(a api.Act) bool { return s.isHost(a) && !s.hosts[a.Host].down }

func (s *state) isDown(a api.Act) bool { return s.isHost(a) && s.hosts[a.Host].down }

func (s *state) goesOn(a api.Act) bool { return !s.clients[a.Conn].ended }

func (s *state) mayAnswer(a api.Act) bool {
	if a.Req == none {
		return s.rests(a) && a.N == own && isOwn(a.Status)
	}
	q, ok := s.requests[a.Req]
	if !ok || q.conn != a.Conn || q.answered {
		return false
	}
	switch a.N {
	case own:
		return isOwn(a.Status)
	case relayed:
		return leastStatus <= a.Status && a.Status <= greatestStatus && q.isTried()
	}
	return false
}

func (s *state) isAnswered(a api.Act) bool {
	q := s.requests[a.Req]
	return q.answered && q.conn == a.Conn
}

// isOwn tells whether a status is one of the proxy's own answers'.
func isOwn(status int) bool { return write.Reason(status) != "" }
