package attempt_test

import (
	"math/rand"
	"slices"
	"testing"

	"headrace/api"
	"headrace/attempt"
)

// Kinds of calls.
const (
	callFail = iota
	callHead
	callTime
)

// call is one of a kind; arg is why, or a status.
type call struct {
	kind, now, id, arg int
	allow              bool
}

func perform(r *attempt.Request, c call) ([]attempt.Act, api.Errno) {
	switch c.kind {
	case callFail:
		return r.Fail(c.now, c.id, c.arg, c.allow)
	case callHead:
		return r.Head(c.now, c.id, c.arg, c.allow)
	}
	return r.Time(c.now, c.allow)
}

func drawPlan(r *rand.Rand) attempt.Plan {
	p := attempt.Plan{Retries: r.Intn(6), Hedges: r.Intn(4), HedgeAfter: 1 + r.Intn(12), PerTry: 1 + r.Intn(20), Total: 1 + r.Intn(80), Safe: r.Intn(4) > 0}
	switch r.Intn(8) {
	case 0:
		p.HedgeAfter = 1000000 - r.Intn(3)
	case 1:
		p.PerTry = 1000000 - r.Intn(3)
	case 2:
		p.Total = 1000000 - r.Intn(3)
	}
	return p
}

// made is an attempt of the model.
type made struct {
	kind, since int
	ended       bool
}

// model is a request by the chapter's words, of all attempts that were ever made.
type model struct {
	attempt.Plan
	began    int
	attempts []made
	noHedges bool
	over     bool
}

func newModel(p attempt.Plan, now int) *model {
	return &model{Plan: p, began: now, attempts: []made{{since: now}}}
}

func later(t, d int) int {
	if d > api.MaxTick-t {
		return api.MaxTick
	}
	return t + d
}

func (m *model) running() []int {
	var l []int
	for id, x := range m.attempts {
		if !m.over && !x.ended {
			l = append(l, id)
		}
	}
	return l
}

func (m *model) count(kind int) int {
	n := 0
	for _, x := range m.attempts {
		if x.kind == kind {
			n++
		}
	}
	return n
}

func (m *model) make(now, kind int) attempt.Act {
	m.attempts = append(m.attempts, made{kind: kind, since: now})
	return try(len(m.attempts)-1, kind)
}

func (m *model) letGo(id int) attempt.Act {
	m.attempts[id].ended = true
	return cancel(id)
}

func (m *model) again(why int, allow bool) bool {
	return m.count(1) < m.Retries && allow && (m.Safe || why == attempt.Refused || why == attempt.Busy)
}

func (m *model) fail(now, id, why int, allow bool) []attempt.Act {
	m.attempts[id].ended = true
	if len(m.running()) > 0 {
		return nil
	}
	if m.again(why, allow) {
		return []attempt.Act{m.make(now, 1)}
	}
	m.over = true
	return []attempt.Act{answer(id, failed(why))}
}

func (m *model) head(now, id, status int, allow bool) []attempt.Act {
	bad := status == 502 || status == 503 || status == 504
	alone := len(m.running()) == 1
	if bad && !alone {
		return []attempt.Act{m.letGo(id)}
	}
	if bad && m.again(attempt.Bad, allow) {
		return []attempt.Act{m.letGo(id), m.make(now, 1)}
	}
	var l []attempt.Act
	for _, other := range m.running() {
		if other != id {
			l = append(l, m.letGo(other))
		}
	}
	m.over = true
	return append(l, win(id))
}

func (m *model) hedgeAt() (int, bool) {
	last := m.attempts[len(m.attempts)-1]
	return later(last.since, m.HedgeAfter), !m.over && !m.noHedges && m.count(2) < m.Hedges
}

func (m *model) time(now int, allow bool) []attempt.Act {
	if m.over {
		return nil
	}
	var l []attempt.Act
	if now >= later(m.began, m.Total) {
		for _, id := range m.running() {
			l = append(l, m.letGo(id))
		}
		m.over = true
		return append(l, answer(-1, 504))
	}
	for _, id := range m.running() {
		if now >= later(m.attempts[id].since, m.PerTry) {
			l = append(l, m.letGo(id))
			l = append(l, m.fail(now, id, attempt.Late, allow)...)
		}
	}
	if at, ok := m.hedgeAt(); ok && now >= at {
		if allow {
			l = append(l, m.make(now, 2))
		} else {
			m.noHedges = true
		}
	}
	return l
}

func (m *model) perform(c call) ([]attempt.Act, api.Errno) {
	moment := 0 <= c.now && c.now <= api.MaxTick
	there := slices.Contains(m.running(), c.id)
	switch {
	case !moment || c.kind == callFail && !slices.Contains(reasons, c.arg):
		return nil, api.ErrArg
	case c.kind == callTime:
		return m.time(c.now, c.allow), api.OK
	case !there:
		return nil, api.ErrNone
	case c.kind == callFail:
		return m.fail(c.now, c.id, c.arg, c.allow), api.OK
	case c.arg < 200 || c.arg > 599:
		return nil, api.ErrArg
	}
	return m.head(c.now, c.id, c.arg, c.allow), api.OK
}

// agree looks at what may be asked without a moment.
func (m *model) agree(t *testing.T, r *attempt.Request) {
	t.Helper()
	if m.over {
		over(t, r)
		return
	}
	next := later(m.began, m.Total)
	for _, id := range m.running() {
		next = min(next, later(m.attempts[id].since, m.PerTry))
	}
	if at, ok := m.hedgeAt(); ok {
		next = min(next, at)
	}
	runs(t, r, next, m.running()...)
}

// drawer draws calls at moments that mostly go on, mostly of attempts that run; where back is true the moments go back now and then.
type drawer struct {
	*rand.Rand
	now  int
	back bool
}

func newDrawer(r *rand.Rand) *drawer {
	d := &drawer{Rand: r, now: r.Intn(10), back: r.Intn(3) == 0}
	switch r.Intn(6) {
	case 0:
		d.now = api.MaxTick - r.Intn(60)
	case 1:
		d.now = 1 << 61
	}
	return d
}

func (d *drawer) call(running []int) call {
	c := call{kind: d.Intn(6), id: d.Intn(12) - 1, allow: d.Intn(5) > 0}
	if c.kind > callTime {
		c.kind = callTime
	}
	if len(running) > 0 && d.Intn(8) > 0 {
		c.id = running[d.Intn(len(running))]
	}
	d.now = min(d.now+d.Intn(7), api.MaxTick)
	c.now = d.now
	if d.back && d.Intn(4) == 0 {
		c.now = max(0, d.now-d.Intn(15))
	}
	switch c.kind {
	case callFail:
		c.arg = 1 + d.Intn(4)
	case callHead:
		c.arg = []int{200, 501, 502, 503, 503, 504, 504, 505}[d.Intn(8)]
	}
	switch d.Intn(30) {
	case 0:
		c.now = noMoments[d.Intn(len(noMoments))]
	case 1:
		c.arg = append(noReasons, noStatuses...)[d.Intn(len(noReasons)+len(noStatuses))]
	}
	return c
}

// 25.1 to 25.4, R4, R6: over many drawn rows of calls all is as the words tell, also where wrong calls stand between them.
func TestAgainstModel(t *testing.T) {
	r := rand.New(rand.NewSource(25))
	var told [5]int
	var kinds [3]int
	for range 20000 {
		d := newDrawer(r)
		p, now := drawPlan(r), d.now
		m, q := newModel(p, now), begin(t, p, now)
		var calls []call
		for range 25 {
			c := d.call(m.running())
			calls = append(calls, c)
			want, e := m.perform(c)
			if got, f := perform(q, c); !slices.Equal(got, want) || f != e {
				t.Errorf("%+v: %v, %v; want %v, %v", c, got, f, want, e)
			}
			m.agree(t, q)
			for _, a := range want {
				told[a.Kind]++
				if a.Kind == attempt.Try {
					kinds[a.N]++
				}
			}
		}
		if t.Failed() {
			t.Fatalf("%+v from %d: %+v", p, now, calls)
		}
	}
	if min(slices.Min(told[1:]), slices.Min(kinds[1:])) < 4000 {
		t.Errorf("%v acts, %v attempts are too few to tell anything", told, kinds)
	}
}

// ledger is what a request's acts alone tell.
type ledger struct {
	attempt.Plan
	made     int
	kinds    [3]int
	running  map[int]int
	answered bool
}

// take books an act: false, if it is one that there may not be.
func (g *ledger) take(a attempt.Act) bool {
	_, there := g.running[a.ID]
	if g.answered {
		return false
	}
	switch a.Kind {
	case attempt.Try:
		g.made++
		g.kinds[a.N]++
		g.running[a.ID] = a.N
		return a.ID == g.made-1 && g.kinds[0] == 1 && g.kinds[1] <= g.Retries && g.kinds[2] <= g.Hedges
	case attempt.Cancel:
		delete(g.running, a.ID)
		return there
	case attempt.Win:
		delete(g.running, a.ID)
		g.answered = true
		return there && len(g.running) == 0
	case attempt.Answer:
		g.answered = true
		return a.N == 502 || a.N == 503 || a.N == 504
	}
	return false
}

// 25.5, 25.6: over many drawn rows of calls there are never more attempts than may be, nothing comes behind an answer, and at the moment later by Total it is over.
func TestBoundsAndEnd(t *testing.T) {
	r := rand.New(rand.NewSource(255))
	ended, most := 0, 0
	for range 20000 {
		d := newDrawer(r)
		p, now := drawPlan(r), d.now
		q, l, _ := attempt.Begin(p, now)
		g := &ledger{Plan: p, running: map[int]int{}}
		if !g.take(l[0]) {
			t.Fatalf("%+v: %v", p, l)
		}
		end := later(now, p.Total)
		var calls []call
		book := func(c call) {
			calls = append(calls, c)
			acts, e := perform(q, c)
			if e == api.OK && c.kind == callFail {
				delete(g.running, c.id)
			}
			for _, a := range acts {
				if !g.take(a) {
					t.Fatalf("%+v: %v in the last of %+v", p, a, calls)
				}
			}
			if g.answered != q.Over() || g.answered != (len(g.running) == 0) {
				t.Fatalf("%+v: over %v, by the acts %+v behind the last of %+v", p, q.Over(), g, calls)
			}
		}
		for range d.Intn(15) {
			book(d.call(q.Running()))
			if g.made == p.Retries+p.Hedges+1 {
				most++
			}
		}
		if !q.Over() {
			ended++
		}
		book(call{kind: callTime, now: end, allow: r.Intn(2) == 0})
		if !q.Over() {
			t.Fatalf("%+v: not over at %d, behind the last of %+v", p, end, calls)
		}
		for range 5 {
			book(d.call([]int{0, 1, 2}))
		}
	}
	if min(ended, most) < 1000 {
		t.Errorf("%d, %d times are too few to tell anything", ended, most)
	}
}
