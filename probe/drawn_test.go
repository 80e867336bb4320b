package probe_test

import (
	"math/rand"
	"slices"
	"testing"

	"headrace/api"
	"headrace/probe"
)

// Kinds of calls.
const (
	callDue = iota
	callLate
	callGood
	callBad
	kinds
)

type call struct{ kind, now, host int }

// numbers are a schedule's.
type numbers struct {
	n int
	probe.Asked
	now int
}

func drawNumbers(r *rand.Rand) numbers {
	x := numbers{1 + r.Intn(5), probe.Asked{Every: 1 + r.Intn(12), Timeout: 1 + r.Intn(8), Up: 1 + r.Intn(3), Down: 1 + r.Intn(3)}, r.Intn(10)}
	switch r.Intn(10) {
	case 0:
		x.n = api.MaxHosts
	case 1:
		x.Every = 0
	case 2:
		x.Every = 1000000 - r.Intn(3)
	case 3:
		x.Timeout = 1000000 - r.Intn(3)
	case 4:
		x.now = api.MaxTick - r.Intn(60)
	case 5:
		x.now = 1 << 61
	}
	return x
}

// drawCalls are calls at moments that mostly go on, and that go back now and then; some name a host that there is none of.
func drawCalls(r *rand.Rand, x numbers) []call {
	now := max(0, x.now-r.Intn(4))
	ill := 1 + r.Intn(4)
	var l []call
	for range 150 {
		switch r.Intn(40) {
		case 0:
			now += r.Intn(1000002)
		case 1, 2, 3, 4, 5, 6, 7, 8, 9, 10:
			now += r.Intn(5)
		}
		now = min(now, api.MaxTick)
		c := call{r.Intn(kinds), now, r.Intn(x.n + 1)}
		if r.Intn(6) == 0 {
			c.now = max(0, now-r.Intn(15))
		}
		if c.kind == callGood && r.Intn(5) < ill {
			c.kind = callBad
		}
		l = append(l, c)
	}
	return l
}

// told is all that happened to a host: when its probes began, and when and how they were answered.
type told struct {
	begun, ended []int
	answers      []bool
	health       []int // what the answers told
}

func (o *told) runs() bool { return len(o.begun) > len(o.ended) }

// healthy goes by the last change that was told.
func (o *told) healthy() bool {
	for _, x := range slices.Backward(o.health) {
		if x != 0 {
			return x == 1
		}
	}
	return true
}

// row is how many answers of one kind stand at the end.
func (o *told) row(ok bool) int {
	n := 0
	for _, x := range slices.Backward(o.answers) {
		if x != ok {
			break
		}
		n++
	}
	return n
}

// model is a schedule by the chapter's words, of all that it was told.
type model struct {
	numbers
	last  int
	hosts []told
}

func later(t, d int) int {
	if d > api.MaxTick-t {
		return api.MaxTick
	}
	return t + d
}

// moment is a host's: when its probe is late, if it runs, else its next one.
func (m *model) moment(o *told) int {
	switch {
	case o.runs():
		return later(o.begun[len(o.begun)-1], m.Timeout)
	case len(o.ended) > 0:
		return later(o.ended[len(o.ended)-1], m.Every)
	}
	return m.now
}

func (m *model) come(runs bool) []int {
	var l []int
	for i := range m.hosts {
		if o := &m.hosts[i]; m.Every > 0 && o.runs() == runs && m.moment(o) <= m.last {
			l = append(l, i)
		}
	}
	return l
}

func (m *model) due(now int) []int {
	m.last = max(m.last, now)
	l := m.come(false)
	for _, host := range l {
		o := &m.hosts[host]
		o.begun = append(o.begun, m.last)
	}
	return l
}

func (m *model) late(now int) []int {
	m.last = max(m.last, now)
	return m.come(true)
}

func (m *model) answer(now, host int, ok bool) (int, api.Errno) {
	if host >= len(m.hosts) {
		return 0, api.ErrNone
	}
	o := &m.hosts[host]
	if !o.runs() {
		return 0, api.ErrState
	}
	m.last = max(m.last, now)
	o.ended, o.answers = append(o.ended, m.last), append(o.answers, ok)
	change := 0
	if ok && !o.healthy() && o.row(true) >= m.Up {
		change = 1
	}
	if !ok && o.healthy() && o.row(false) >= m.Down {
		change = 2
	}
	o.health = append(o.health, change)
	return change, api.OK
}

// agree looks at what may be asked without a moment.
func (m *model) agree(t *testing.T, s *probe.Schedule) {
	t.Helper()
	var l []int
	for i := range m.hosts {
		healthy(t, s, m.hosts[i].healthy(), i)
		l = append(l, m.moment(&m.hosts[i]))
	}
	if m.Every == 0 {
		noNext(t, s)
		return
	}
	next(t, s, slices.Min(l))
}

// 19.1 to 19.3: over many drawn sequences of calls all is as the words tell.
func TestAgainstModel(t *testing.T) {
	r := rand.New(rand.NewSource(19))
	var changes [3]int
	for range 4000 {
		x := drawNumbers(r)
		m := &model{numbers: x, hosts: make([]told, x.n)}
		s := newSchedule(t, x.n, x.Asked, x.now)
		calls := drawCalls(r, x)
		for _, c := range calls {
			switch c.kind {
			case callDue:
				due(t, s, c.now, m.due(c.now)...)
			case callLate:
				late(t, s, c.now, m.late(c.now)...)
			default:
				want, f := m.answer(c.now, c.host, c.kind == callGood)
				if got, e := s.Answer(c.now, c.host, c.kind == callGood); got != want || e != f {
					t.Errorf("Answer(%d, %d, %v): %d, %v; want %d, %v", c.now, c.host, c.kind == callGood, got, e, want, f)
				}
				changes[want]++
			}
			m.agree(t, s)
		}
		if t.Failed() {
			t.Fatalf("%+v: %v", x, calls)
		}
	}
	if slices.Min(changes[:]) < 1000 {
		t.Errorf("%d changes are too few to tell anything", changes)
	}
}

// 19.4: a host's probe runs once at a time, and begins Every ticks behind the last one's answer or later.
func TestBetween(t *testing.T) {
	r := rand.New(rand.NewSource(194))
	begun, just := 0, 0
	for range 4000 {
		x := drawNumbers(r)
		s := newSchedule(t, x.n, x.Asked, x.now)
		calls := drawCalls(r, x)
		last, runs, ended := 0, map[int]bool{}, map[int]int{}
		for i, c := range calls {
			switch c.kind {
			case callDue:
				last = max(last, c.now)
				l, _ := s.Due(c.now)
				for _, host := range l {
					end, again := ended[host]
					// At the greatest moment time stands still, and with it what is later by Every.
					if runs[host] || again && last < api.MaxTick && last-end < x.Every {
						t.Fatalf("%+v: the probe of %d begins in call %d of %v", x, host, i, calls)
					}
					if again && last-end == x.Every {
						just++
					}
					runs[host] = true
					begun++
				}
			case callLate:
				last = max(last, c.now)
				l, _ := s.Late(c.now)
				for _, host := range l {
					if !runs[host] {
						t.Fatalf("%+v: the probe of %d is late in call %d of %v", x, host, i, calls)
					}
				}
			default:
				if _, e := s.Answer(c.now, c.host, c.kind == callGood); (e == api.OK) != runs[c.host] {
					t.Fatalf("%+v: %v in call %d of %v", x, e, i, calls)
				} else if e == api.OK {
					last = max(last, c.now)
					runs[c.host], ended[c.host] = false, last
				}
			}
		}
	}
	if begun < 10000 || just < 1000 {
		t.Errorf("%d probes, %d of them as early as may be, are too few to tell anything", begun, just)
	}
}
