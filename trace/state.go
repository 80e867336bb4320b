package trace

import (
	"headrace/api"
	"headrace/bucket"
	"headrace/budget"
	"headrace/tick"
)

// none stands for no request and no route.
const none = -1

// Kinds of attempts.
const (
	first = 0
	retry = 1
	hedge = 2
	kinds = 3
)

// client is one that opened, be it there still or not, since a number opens once.
type client struct {
	there  bool
	beyond bool // it opened when there was no room for it
	ended  bool // it was answered without a request
	open   int  // its open request
}

// link is a host's connection that is there.
type link struct {
	host int
	up   bool
}

// request is an open one.
type request struct {
	conn, route        int
	admitted, answered bool
	tries              [kinds]int
}

// route is what is known of a route.
type route struct {
	bucket *bucket.Bucket
	gate   *bucket.Gate
	budget *budget.Budget
	until  int  // none is tried ahead of it
	few    bool // none is tried from then on but probes
	probes int  // that were tried
}

// host is what is known of a host.
type host struct {
	links         int
	ejected, down bool
}

// state is what the events and acts so far tell.
type state struct {
	c          api.Config
	began, now int // the moments at the step's beginning and at its end
	last       int // the moment of the act ahead
	there      int // clients
	asked      int // connections to hosts, those that are not there any more too
	parsed     int // requests, those that are not open any more too
	ejected    int // hosts
	clients    map[int]client
	links      map[int]link
	requests   map[int]request
	routes     []route
	hosts      []host
}

// begin is what is known at first.
func begin(c api.Config) *state {
	s := &state{c: c, clients: map[int]client{}, links: map[int]link{}, requests: map[int]request{}}
	for _, r := range c.Routes {
		var x route
		x.bucket, _ = bucket.New(r.Rate, r.Per, r.Burst, 0)
		x.gate, _ = bucket.Gated(r.Open)
		x.budget, _ = budget.New(r.Percent, r.Min, r.Window)
		s.routes = append(s.routes, x)
	}
	s.hosts = make([]host, len(c.Hosts))
	return s
}

// happen is what an event does.
func (s *state) happen(e api.Event) {
	s.began = s.now
	switch e.Kind {
	case api.EvTick:
		// A span below 0 is none: the moment stays.
		s.now, _ = tick.Add(s.now, max(e.N, 0))
	case api.EvOpen:
		s.open(e.Conn)
	case api.EvReset:
		s.gone(e.Conn)
	case api.EvUp:
		if x, ok := s.links[e.Conn]; ok {
			x.up = true
			s.links[e.Conn] = x
		}
	case api.EvRefused:
		if x, ok := s.links[e.Conn]; ok && !x.up {
			s.gone(e.Conn)
		}
	}
}

// open lets a client be there, if its number is one that none had.
func (s *state) open(conn int) {
	if _, ok := s.clients[conn]; ok || conn < 0 || conn >= Base {
		return
	}
	s.clients[conn] = client{there: true, beyond: s.there >= s.c.Clients, open: none}
	s.there++
}

// gone lets a connection be there no longer.
func (s *state) gone(conn int) {
	if x := s.clients[conn]; x.there {
		s.close(x.open)
		s.clients[conn] = client{open: none}
		s.there--
	}
	if x, ok := s.links[conn]; ok {
		s.hosts[x.host].links--
		delete(s.links, conn)
	}
}

// close lets a request be open no longer.
func (s *state) close(req int) {
	q, ok := s.requests[req]
	if !ok {
		return
	}
	if q.admitted {
		s.routes[q.route].gate.Leave()
	}
	x := s.clients[q.conn]
	x.open = none
	s.clients[q.conn] = x
	delete(s.requests, req)
}

// do is what an act does that breaks no rule.
func (s *state) do(a api.Act) {
	s.last = a.At
	switch a.Kind {
	case api.AcOpen:
		s.links[a.Conn] = link{host: a.Host}
		s.hosts[a.Host].links++
		s.asked++
	case api.AcClose:
		s.gone(a.Conn)
	case api.AcParsed:
		s.parse(a)
	case api.AcAdmit:
		s.admit(a)
	case api.AcTry:
		s.try(a)
	case api.AcAnswer:
		s.answer(a)
	case api.AcDone:
		s.close(a.Req)
	case api.AcEject:
		s.hosts[a.Host].ejected = true
		s.ejected++
	case api.AcRestore:
		s.hosts[a.Host].ejected = false
		s.ejected--
	case api.AcDown:
		s.hosts[a.Host].down = true
	case api.AcHealthy:
		s.hosts[a.Host].down = false
	case api.AcBreak:
		x := &s.routes[a.N]
		x.until, _ = tick.Add(a.At, s.c.Routes[a.N].Cool)
		x.few, x.probes = true, 0
	case api.AcMend:
		// The moment up to which none is tried stays, since that alone ends it.
		s.routes[a.N].few = false
	}
}

func (s *state) parse(a api.Act) {
	s.requests[a.Req] = request{conn: a.Conn, route: a.N}
	x := s.clients[a.Conn]
	x.open = a.Req
	s.clients[a.Conn] = x
	s.parsed++
}

func (s *state) admit(a api.Act) {
	q := s.requests[a.Req]
	q.admitted = true
	s.requests[a.Req] = q
	// One that finds no room for it counts no further, as it does in a proxy.
	s.routes[q.route].budget.Admit(a.At)
}

func (s *state) try(a api.Act) {
	q := s.requests[a.Req]
	q.tries[a.N]++
	s.requests[a.Req] = q
	if x := &s.routes[q.route]; x.few {
		x.probes++
	}
}

func (s *state) answer(a api.Act) {
	if a.Req == none {
		x := s.clients[a.Conn]
		x.ended = true
		s.clients[a.Conn] = x
		return
	}
	q := s.requests[a.Req]
	q.answered = true
	s.requests[a.Req] = q
}
