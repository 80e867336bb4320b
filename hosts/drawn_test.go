package hosts_test

import (
	"math/rand"
	"slices"
	"testing"

	"headrace/api"
)

// Kinds of calls.
const (
	callBring = iota
	callGood
	callBad
	callMark
	callUsable
	kinds
)

type call struct {
	kind, now, host int
	healthy         bool
}

// numbers are a set's.
type numbers struct{ n, fails, base, longest, share int }

func drawNumbers(r *rand.Rand) numbers {
	x := numbers{n: 1 + r.Intn(6), fails: r.Intn(4), base: 1 + r.Intn(10), share: r.Intn(101)}
	switch r.Intn(6) {
	case 0:
		x.n = api.MaxHosts
	case 1:
		x.share = 100
	case 2:
		x.base = 1000000 - r.Intn(3)
	}
	x.longest = min(x.base+r.Intn(3*x.base), 1000000)
	return x
}

// drawCalls are calls at moments that mostly go on, and that go back now and then.
func drawCalls(r *rand.Rand, n int) []call {
	now := r.Intn(10)
	switch r.Intn(6) {
	case 0:
		now = api.MaxTick - r.Intn(40)
	case 1:
		now = 1 << 61
	}
	ill := 1 + r.Intn(4)
	var l []call
	for range 120 {
		switch r.Intn(40) {
		case 0:
			now += r.Intn(1000002)
		case 1, 2, 3, 4, 5, 6, 7, 8:
			now += r.Intn(4)
		}
		now = min(now, api.MaxTick)
		c := call{r.Intn(kinds), now, r.Intn(n), r.Intn(3) > 0}
		if r.Intn(6) == 0 {
			c.now = max(0, now-r.Intn(15))
		}
		if c.kind == callGood && r.Intn(5) < ill {
			c.kind = callBad
		}
		l = append(l, c)
	}
	return l
}

// told is what a host was told: its marks, its ejections' ends, and the ends of attempts that count.
type told struct {
	marks, ends []bool
	ejections   []int
	out         bool
}

func (m *told) healthy() bool { return len(m.marks) == 0 || m.marks[len(m.marks)-1] }

// row is how many failures stand at the end.
func (m *told) row() int {
	n := 0
	for _, ok := range m.ends {
		if n++; ok {
			n = 0
		}
	}
	return n
}

// model is a set by the chapter's words, of all that it was told.
type model struct {
	numbers
	last  int
	hosts []told
}

func (m *model) bring(now int) []int {
	m.last = max(m.last, now)
	var l []int
	for i := range m.hosts {
		if x := &m.hosts[i]; x.out && x.ejections[len(x.ejections)-1] <= m.last {
			x.out, x.ends = false, nil
			l = append(l, i)
		}
	}
	return l
}

func (m *model) count(is func(x *told) bool) []int {
	var l []int
	for i := range m.hosts {
		if is(&m.hosts[i]) {
			l = append(l, i)
		}
	}
	return l
}

func (m *model) ejected() []int { return m.count(func(x *told) bool { return x.out }) }

func (m *model) usable() []int {
	return m.count(func(x *told) bool { return !x.out && x.healthy() })
}

func (m *model) result(host int, ok bool) bool {
	x := &m.hosts[host]
	if x.out {
		return false
	}
	x.ends = append(x.ends, ok)
	if m.fails == 0 || x.row() < m.fails || 100*(len(m.ejected())+1) > m.share*m.n {
		return false
	}
	span := 0
	for range len(x.ejections) + 1 {
		span += m.base
	}
	if span > m.longest {
		span = m.longest
	}
	end := api.MaxTick
	if span < api.MaxTick-m.last {
		end = m.last + span
	}
	x.ejections, x.ends, x.out = append(x.ejections, end), nil, true
	return true
}

// 18.1 to 18.3: over many drawn sequences of calls all is as the words tell.
func TestAgainstModel(t *testing.T) {
	r := rand.New(rand.NewSource(18))
	ejections := 0
	for range 4000 {
		x := drawNumbers(r)
		m := &model{numbers: x, hosts: make([]told, x.n)}
		h := newHosts(t, x.n, x.fails, x.base, x.longest, x.share)
		calls := drawCalls(r, x.n)
		for _, c := range calls {
			restored := m.bring(c.now)
			switch c.kind {
			case callBring:
				bring(t, h, c.now, restored...)
			case callMark:
				o := &m.hosts[c.host]
				mark(t, h, c.now, c.host, c.healthy, o.healthy() != c.healthy)
				o.marks = append(o.marks, c.healthy)
			case callUsable:
				usable(t, h, c.now, m.usable()...)
			default:
				out := m.result(c.host, c.kind == callGood)
				result(t, h, c.now, c.host, c.kind == callGood, out)
				if out {
					ejections++
				}
			}
			ejected(t, h, len(m.ejected()))
			for i := range m.hosts {
				if o := &m.hosts[i]; o.out {
					until(t, h, i, o.ejections[len(o.ejections)-1])
				} else {
					within(t, h, i)
				}
			}
		}
		if t.Failed() {
			t.Fatalf("%+v: %v", x, calls)
		}
	}
	if ejections < 10000 {
		t.Errorf("%d ejections are too few to tell anything", ejections)
	}
}

// 18.4: never more than the share is ejected; what is ejected may not be used until it is restored, and that is at its moment.
func TestNeverMore(t *testing.T) {
	r := rand.New(rand.NewSource(184))
	most, barred := 0, 0
	for range 4000 {
		x := drawNumbers(r)
		h := newHosts(t, x.n, x.fails, x.base, x.longest, x.share)
		calls := drawCalls(r, x.n)
		last, ends := 0, map[int]int{} // of each host that a Result told of: its end
		for i, c := range calls {
			last = max(last, c.now)
			l, _ := h.Bring(c.now)
			for _, host := range l {
				if end, out := ends[host]; !out || end > last {
					t.Fatalf("%+v: %d is restored by call %d of %v", x, host, i, calls)
				}
				delete(ends, host)
			}
			switch c.kind {
			case callMark:
				h.Mark(c.now, c.host, c.healthy)
			case callGood, callBad:
				if out, _ := h.Result(c.now, c.host, c.kind == callGood); out {
					ends[c.host], _ = h.Until(c.host)
				}
			}
			if 100*h.Ejected() > x.share*x.n || h.Ejected() != len(ends) {
				t.Fatalf("%+v: %d are ejected behind call %d of %v", x, h.Ejected(), i, calls)
			}
			if 100*(h.Ejected()+1) > x.share*x.n {
				most++
			}
			// The ends that have come are those of this very call, at the greatest moment.
			if last == api.MaxTick {
				continue
			}
			l, _ = h.Usable(c.now)
			for host, end := range ends {
				if end <= last || slices.Contains(l, host) {
					t.Fatalf("%+v: %d may be used behind call %d of %v", x, host, i, calls)
				}
				barred++
			}
		}
	}
	if most < 10000 || barred < 10000 {
		t.Errorf("%d calls at the share and %d barred hosts are too few to tell anything", most, barred)
	}
}
