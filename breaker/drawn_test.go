package breaker_test

import (
	"math/rand"
	"testing"

	"headrace/api"
)

// Kinds of calls.
const (
	callCan = iota
	callAllow
	callState
	callGood
	callBad
)

type call struct{ kind, now int }

// numbers are a breaker's.
type numbers struct{ fails, cool, probes int }

func drawNumbers(r *rand.Rand) numbers {
	n := numbers{r.Intn(5), 1 + r.Intn(8), 1 + r.Intn(4)}
	if r.Intn(10) == 0 {
		n.cool = 1000000 - r.Intn(3)
	}
	return n
}

// drawCalls are calls at moments that mostly go on, and that go back now and then.
func drawCalls(r *rand.Rand) []call {
	now := r.Intn(10)
	switch r.Intn(6) {
	case 0:
		now = api.MaxTick - r.Intn(30)
	case 1:
		now = 1 << 61
	}
	bad := 1 + r.Intn(4)
	var l []call
	for range 60 {
		switch r.Intn(30) {
		case 0:
			now += r.Intn(1000002)
		case 1, 2, 3, 4, 5, 6, 7, 8:
			now += r.Intn(4)
		}
		now = min(now, api.MaxTick)
		asked := now
		if r.Intn(6) == 0 {
			asked = max(0, now-r.Intn(12))
		}
		kind := r.Intn(callBad)
		if kind == callGood && r.Intn(5) < bad {
			kind = callBad
		}
		l = append(l, call{kind, asked})
	}
	return l
}

// told is what a breaker is by the chapter's words, found by going through all calls from the first on.
type told struct {
	state, from int // since when it is open
	ends        []bool
	started     int
}

// at is the state at a moment: an open one is half open from the moment later by cool on, and that is MaxTick at most.
func (m *told) at(n numbers, now int) int {
	if m.state == open && (now-m.from >= n.cool || now == api.MaxTick) {
		*m = told{state: halfOpen}
	}
	return m.state
}

// end is what an attempt's end makes of it; what counts are the ends since it came to its state.
func (m *told) end(n numbers, now int, ok bool) int {
	if m.state == open {
		return nothing
	}
	m.ends = append(m.ends, ok)
	good, row := 0, 0
	for _, x := range m.ends {
		if row++; x {
			good, row = good+1, 0
		}
	}
	switch {
	case m.state == halfOpen && !ok, m.state == closed && n.fails > 0 && row >= n.fails:
		*m = told{state: open, from: now}
		return opened
	case m.state == halfOpen && good == n.probes:
		*m = told{state: closed}
		return closes
	}
	return nothing
}

// 16.1 to 16.3: over many drawn sequences of calls all is as the words tell.
func TestAgainstModel(t *testing.T) {
	r := rand.New(rand.NewSource(16))
	for range 5000 {
		n, m, now := drawNumbers(r), told{state: closed}, 0
		b := newBreaker(t, n.fails, n.cool, n.probes)
		calls := drawCalls(r)
		for _, c := range calls {
			now = max(now, c.now)
			is := m.at(n, now)
			may := is == closed || is == halfOpen && m.started < n.probes
			switch c.kind {
			case callCan:
				can(t, b, c.now, may)
			case callAllow:
				allow(t, b, c.now, may)
				if may {
					m.started++
				}
			case callState:
				state(t, b, c.now, is)
			default:
				done(t, b, c.now, c.kind == callGood, m.end(n, now, c.kind == callGood))
			}
		}
		if t.Failed() {
			t.Fatalf("%+v: %v", n, calls)
		}
	}
}

// watch holds 16.4 against what a breaker answers, of which it knows Done's answers alone.
type watch struct {
	numbers
	broken       bool // between an opening and a closing
	from, within int  // when it opened, and how many were allowed since
}

// allowed tells whether one may be allowed at a moment.
func (w *watch) allowed(now int) bool {
	if !w.broken {
		return true
	}
	w.within++
	return w.within <= w.probes && (now-w.from >= w.cool || now == api.MaxTick)
}

func (w *watch) ended(now, answer int) {
	switch answer {
	case opened:
		w.broken, w.from, w.within = true, now, 0
	case closes:
		w.broken = false
	}
}

// 16.4: while it is open nothing is allowed, for cool ticks at least; then at most probes, until it closes or opens again.
func TestNothingWhileOpen(t *testing.T) {
	r := rand.New(rand.NewSource(164))
	openings, closings := 0, 0
	for range 5000 {
		w, now := watch{numbers: drawNumbers(r)}, 0
		b := newBreaker(t, w.fails, w.cool, w.probes)
		calls := drawCalls(r)
		for i, c := range calls {
			now = max(now, c.now)
			switch c.kind {
			case callCan:
				b.Can(c.now)
			case callState:
				b.State(c.now)
			case callAllow:
				if ok, _ := b.Allow(c.now); ok && !w.allowed(now) {
					t.Fatalf("%+v: allowed by call %d of %v", w, i, calls)
				}
			default:
				answer, _ := b.Done(c.now, c.kind == callGood)
				w.ended(now, answer)
				if answer == opened {
					openings++
				} else if answer == closes {
					closings++
				}
			}
		}
	}
	if openings < 1000 || closings < 1000 {
		t.Errorf("%d openings and %d closings are too few to tell anything", openings, closings)
	}
}

// What is allowed is the same, though Can and State are asked between, at moments up to the next call's.
func TestAskedBetween(t *testing.T) {
	r := rand.New(rand.NewSource(162))
	for range 3000 {
		n := drawNumbers(r)
		quiet, asked := newBreaker(t, n.fails, n.cool, n.probes), newBreaker(t, n.fails, n.cool, n.probes)
		now := 0
		calls := drawCalls(r)
		for _, c := range calls {
			if c.kind == callCan || c.kind == callState {
				continue
			}
			then := max(now, c.now)
			for range r.Intn(4) {
				asked.Can(now + r.Intn(then-now+1))
				asked.State(now + r.Intn(then-now+1))
			}
			now = then
			if c.kind == callAllow {
				ok, _ := quiet.Allow(c.now)
				can(t, asked, c.now, ok)
				allow(t, asked, c.now, ok)
			} else {
				answer, _ := quiet.Done(c.now, c.kind == callGood)
				done(t, asked, c.now, c.kind == callGood, answer)
			}
		}
		if t.Failed() {
			t.Fatalf("%+v: %v", n, calls)
		}
	}
}
