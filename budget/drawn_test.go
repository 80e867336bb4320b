package budget_test

import (
	"math/rand"
	"testing"

	"headrace/api"
)

// Kinds of calls.
const (
	callAdmit = iota
	callCan
	callAllow
	callLate
	kinds
)

type call struct{ kind, now int }

// numbers are a budget's.
type numbers struct{ percent, min, window int }

func drawNumbers(r *rand.Rand) numbers {
	n := numbers{r.Intn(101), r.Intn(4), 1 + r.Intn(12)}
	switch r.Intn(8) {
	case 0:
		n.percent = 0
	case 1:
		n.percent = 100
	case 2:
		n.window = 1000000 - r.Intn(3)
	}
	return n
}

// drawCalls are calls at moments that mostly go on, and that go back now and then.
func drawCalls(r *rand.Rand) []call {
	now := r.Intn(10)
	switch r.Intn(6) {
	case 0:
		now = api.MaxTick - r.Intn(40)
	case 1:
		now = 1 << 61
	}
	var l []call
	for range 80 {
		switch r.Intn(30) {
		case 0:
			now += r.Intn(1000002)
		case 1, 2, 3, 4, 5, 6, 7, 8, 9, 10:
			now += r.Intn(4)
		}
		now = min(now, api.MaxTick)
		asked := now
		if r.Intn(6) == 0 {
			asked = max(0, now-r.Intn(15))
		}
		l = append(l, call{r.Intn(kinds), asked})
	}
	return l
}

// told is all that a budget was ever told; nothing is cut off.
type told struct{ requests, retries []int }

// ofLate is how many moments are of late, by the chapter's words.
func (n numbers) ofLate(l []int, t int) int {
	late := 0
	for _, m := range l {
		if m <= t && (t < n.window || m > t-n.window) {
			late++
		}
	}
	return late
}

// lets tells whether one more retry is few beside the requests.
func (n numbers) lets(m told, t int) bool {
	more := n.ofLate(m.retries, t) + 1
	return more <= n.min || 100*more <= n.percent*n.ofLate(m.requests, t)
}

// 17.1, 17.2: over many drawn sequences of calls all is as the words tell.
func TestAgainstModel(t *testing.T) {
	r := rand.New(rand.NewSource(17))
	let, refused := 0, 0
	for range 5000 {
		n, m, last := drawNumbers(r), told{}, 0
		b := newBudget(t, n.percent, n.min, n.window)
		calls := drawCalls(r)
		for _, c := range calls {
			last = max(last, c.now)
			lets := n.lets(m, last)
			switch c.kind {
			case callAdmit:
				admit(t, b, c.now, 1)
				m.requests = append(m.requests, last)
			case callCan:
				can(t, b, c.now, lets)
			case callLate:
				late(t, b, c.now, n.ofLate(m.requests, last), n.ofLate(m.retries, last))
			case callAllow:
				allow(t, b, c.now, lets)
				if lets {
					m.retries = append(m.retries, last)
					let++
				} else {
					refused++
				}
			}
		}
		if t.Failed() {
			t.Fatalf("%+v: %v", n, calls)
		}
	}
	if let < 10000 || refused < 10000 {
		t.Errorf("%d let through and %d not are too few to tell anything", let, refused)
	}
}

// 17.3: in no window that ends where one was let through are more than it says.
func TestNeverMore(t *testing.T) {
	r := rand.New(rand.NewSource(173))
	let := 0
	for range 5000 {
		n, last := drawNumbers(r), 0
		var requests, retries []int
		b := newBudget(t, n.percent, n.min, n.window)
		calls := drawCalls(r)
		for i, c := range calls {
			last = max(last, c.now)
			switch c.kind {
			case callAdmit:
				if b.Admit(c.now) == api.OK {
					requests = append(requests, last)
				}
			case callCan:
				b.Can(c.now)
			case callLate:
				b.Late(c.now)
			case callAllow:
				ok, _ := b.Allow(c.now)
				if !ok {
					continue
				}
				let++
				retries = append(retries, last)
				within, beside := 0, 0
				for _, m := range retries {
					if last-m < n.window {
						within++
					}
				}
				for _, m := range requests {
					if last-m < n.window {
						beside++
					}
				}
				if within > n.min && 100*within > n.percent*beside {
					t.Fatalf("%+v: %d retries beside %d requests at call %d of %v", n, within, beside, i, calls)
				}
			}
		}
	}
	if let < 10000 {
		t.Errorf("%d let through are too few to tell anything", let)
	}
}

// What is allowed is the same, though Can and Late are asked between, at moments up to the next call's.
func TestAskedBetween(t *testing.T) {
	r := rand.New(rand.NewSource(172))
	for range 3000 {
		n, now := drawNumbers(r), 0
		quiet, asked := newBudget(t, n.percent, n.min, n.window), newBudget(t, n.percent, n.min, n.window)
		calls := drawCalls(r)
		for _, c := range calls {
			if c.kind == callCan || c.kind == callLate {
				continue
			}
			then := max(now, c.now)
			for range r.Intn(4) {
				asked.Can(now + r.Intn(then-now+1))
				asked.Late(now + r.Intn(then-now+1))
			}
			now = then
			if c.kind == callAdmit {
				admit(t, quiet, c.now, 1)
				admit(t, asked, c.now, 1)
				continue
			}
			ok, _ := quiet.Allow(c.now)
			can(t, asked, c.now, ok)
			allow(t, asked, c.now, ok)
		}
		if t.Failed() {
			t.Fatalf("%+v: %v", n, calls)
		}
	}
}

// Over long rows, in which as many go as come, the counts stay right: neither what is cut off nor where it is moved to is lost.
func TestLongRows(t *testing.T) {
	for _, window := range []int{1, 2, 3, 7, 64, 1000, 30000} {
		b := newBudget(t, 100, 0, window)
		for now := range 100000 {
			admit(t, b, now, 1)
			allow(t, b, now, true)
			if now%1000 == 0 || now < 200 {
				n := min(now+1, window)
				late(t, b, now, n, n)
				allow(t, b, now, false)
			}
		}
		// A burst behind a rest, and a rest behind it.
		admit(t, b, 200000, 50)
		late(t, b, 200000, 50, 0)
		admit(t, b, 200000+window, 1)
		late(t, b, 200000+window, 1, 0)
		if t.Failed() {
			t.Fatalf("at window %d", window)
		}
	}
}
