package probe_test

import (
	"math"
	"slices"
	"testing"

	"headrace/api"
	"headrace/probe"
)

// noMoments lie outside on both sides, as near and as far as they may.
var noMoments = []int{-1, math.MinInt, api.MaxTick + 1, math.MaxInt}

func newSchedule(t *testing.T, n int, a probe.Asked, now int) *probe.Schedule {
	t.Helper()
	s, e := probe.New(n, a, now)
	if s == nil || e != api.OK {
		t.Fatalf("New(%d, %+v, %d): %v, %v", n, a, now, s, e)
	}
	return s
}

func due(t *testing.T, s *probe.Schedule, now int, want ...int) {
	t.Helper()
	if l, e := s.Due(now); !slices.Equal(l, want) || e != api.OK {
		t.Errorf("Due(%d): %v, %v; want %v", now, l, e, want)
	}
}

func late(t *testing.T, s *probe.Schedule, now int, want ...int) {
	t.Helper()
	if l, e := s.Late(now); !slices.Equal(l, want) || e != api.OK {
		t.Errorf("Late(%d): %v, %v; want %v", now, l, e, want)
	}
}

func answer(t *testing.T, s *probe.Schedule, now, host int, ok bool, want int) {
	t.Helper()
	if x, e := s.Answer(now, host, ok); x != want || e != api.OK {
		t.Errorf("Answer(%d, %d, %v): %d, %v; want %d", now, host, ok, x, e, want)
	}
}

// noAnswer is an answer, good or bad, that must not go well.
func noAnswer(t *testing.T, s *probe.Schedule, now, host int, want api.Errno) {
	t.Helper()
	for _, ok := range []bool{true, false} {
		if x, e := s.Answer(now, host, ok); x != 0 || e != want {
			t.Errorf("Answer(%d, %d, %v): %d, %v; want 0, %v", now, host, ok, x, e, want)
		}
	}
}

func healthy(t *testing.T, s *probe.Schedule, want bool, list ...int) {
	t.Helper()
	for _, host := range list {
		if x := s.Healthy(host); x != want {
			t.Errorf("Healthy(%d): %v; want %v", host, x, want)
		}
	}
}

func next(t *testing.T, s *probe.Schedule, want int) {
	t.Helper()
	if at, ok := s.Next(); at != want || !ok {
		t.Errorf("Next: %d, %v; want %d, true", at, ok, want)
	}
}

func noNext(t *testing.T, s *probe.Schedule) {
	t.Helper()
	if at, ok := s.Next(); at != 0 || ok {
		t.Errorf("Next: %d, %v; want 0, false", at, ok)
	}
}

// numbered are the numbers from 0 on, so many.
func numbered(n int) []int {
	var l []int
	for i := range n {
		l = append(l, i)
	}
	return l
}

// The chapter's example.
func TestExample(t *testing.T) {
	s := newSchedule(t, 1, probe.Asked{Every: 10, Timeout: 3, Up: 1, Down: 2}, 0)
	due(t, s, 0, 0)
	due(t, s, 0)
	late(t, s, 2)
	late(t, s, 3, 0)
	answer(t, s, 3, 0, false, 0)
	due(t, s, 13, 0)
	answer(t, s, 14, 0, false, 2)
	healthy(t, s, false, 0)
}

// 19.1, R4: each argument at the edges of its range, one below and one above; one that is wrong is enough.
func TestNew(t *testing.T) {
	if api.MaxHosts != 16 {
		t.Fatalf("MaxHosts: %d", api.MaxHosts)
	}
	far := []int{-1, math.MinInt, math.MaxInt}
	counts := append(far, 0, 1, 2, 99, 100, 101)
	for _, n := range append(far, 0, 1, 2, 15, 16, 17) {
		for _, every := range append(far, 0, 1, 999999, 1000000, 1000001) {
			for _, timeout := range append(far, 0, 1, 999999, 1000000, 1000001) {
				for _, up := range counts {
					for _, down := range counts {
						for _, now := range append(noMoments, 0, 1, 7, api.MaxTick-1, api.MaxTick) {
							a := probe.Asked{Every: every, Timeout: timeout, Up: up, Down: down}
							right := n >= 1 && n <= 16 && every >= 0 && every <= 1000000 && timeout >= 1 && timeout <= 1000000 &&
								up >= 1 && up <= 100 && down >= 1 && down <= 100 && now >= 0 && now <= api.MaxTick
							if s, e := probe.New(n, a, now); right && e == api.OK {
								isNew(t, s, n, a, now)
							} else if right || s != nil || e != api.ErrArg {
								t.Errorf("New(%d, %+v, %d): %v, %v", n, a, now, s, e)
							}
						}
					}
				}
			}
		}
	}
}

// isNew looks at a schedule whose hosts are healthy, and due at its moment, if any is ever due.
func isNew(t *testing.T, s *probe.Schedule, n int, a probe.Asked, now int) {
	t.Helper()
	if !s.Healthy(0) || !s.Healthy(n-1) || s.Healthy(n) || s.Healthy(-1) {
		t.Errorf("New(%d, %+v, %d): not all are healthy, or more", n, a, now)
	}
	at, ok := s.Next()
	if want := a.Every > 0; ok != want || want && at != now || !want && at != 0 {
		t.Errorf("New(%d, %+v, %d): Next: %d, %v", n, a, now, at, ok)
	}
}

// 19.2: nothing is due ahead of the moment of New; from that moment on all are, once.
func TestFirst(t *testing.T) {
	for _, n := range []int{1, 2, 15, 16} {
		for _, now := range []int{0, 1, 100, 1 << 61, api.MaxTick - 1, api.MaxTick} {
			a := probe.Asked{Every: 10, Timeout: 3, Up: 1, Down: 1}
			s := newSchedule(t, n, a, now)
			if now > 0 {
				due(t, s, 0)
				due(t, s, now-1)
				late(t, s, now-1)
			}
			next(t, s, now)
			due(t, s, now, numbered(n)...)
			due(t, s, now)
			if now < api.MaxTick {
				s = newSchedule(t, n, a, now)
				due(t, s, now+1, numbered(n)...)
				due(t, s, now+1)
			}
		}
	}
}

// 19.2: a probe is due again at its next moment, not ahead of it, and behind it still; it runs since it was told, not since it was due.
func TestDue(t *testing.T) {
	for _, every := range []int{1, 2, 10, 999999, 1000000} {
		a := probe.Asked{Every: every, Timeout: 5, Up: 1, Down: 1}
		for _, behind := range []int{0, 1, 7, 5000000} {
			s := newSchedule(t, 1, a, 0)
			due(t, s, 0, 0)
			answer(t, s, 4, 0, true, 0)
			next(t, s, 4+every)
			due(t, s, 4+every-1)
			next(t, s, 4+every)
			due(t, s, 4+every+behind, 0)
			due(t, s, 4+every+behind)
			next(t, s, 4+every+behind+5)
			late(t, s, 4+every+behind+4)
			late(t, s, 4+every+behind+5, 0)
		}
	}
}

// 19.2: hosts are due each for itself, and are told rising, whatever the order of their answers.
func TestDueApart(t *testing.T) {
	s := newSchedule(t, 16, probe.Asked{Every: 10, Timeout: 100, Up: 1, Down: 1}, 0)
	due(t, s, 0, numbered(16)...)
	for _, host := range []int{15, 3, 9, 0} {
		answer(t, s, 1, host, true, 0)
	}
	answer(t, s, 2, 4, true, 0)
	due(t, s, 10)
	due(t, s, 11, 0, 3, 9, 15)
	due(t, s, 11)
	due(t, s, 12, 4)
	answer(t, s, 13, 9, true, 0)
	answer(t, s, 15, 2, true, 0)
	due(t, s, 30, 2, 9)
}

// 19.2: a probe is late from its beginning and Timeout on, as long as it runs; to tell it ends nothing.
func TestLate(t *testing.T) {
	for _, timeout := range []int{1, 2, 3, 999999, 1000000} {
		s := newSchedule(t, 3, probe.Asked{Every: 10, Timeout: timeout, Up: 1, Down: 1}, 5)
		late(t, s, 4)
		late(t, s, 5)
		due(t, s, 7, 0, 1, 2)
		late(t, s, 7)
		late(t, s, 7+timeout-1)
		next(t, s, 7+timeout)
		late(t, s, 7+timeout, 0, 1, 2)
		late(t, s, 7+timeout, 0, 1, 2)
		due(t, s, 7+timeout)
		late(t, s, 8+timeout, 0, 1, 2)
		next(t, s, 7+timeout)
		answer(t, s, 8+timeout, 1, false, 2)
		late(t, s, 8+timeout, 0, 2)
		late(t, s, 1<<61, 0, 2)
		late(t, s, api.MaxTick, 0, 2)
		answer(t, s, api.MaxTick, 0, true, 0)
		answer(t, s, api.MaxTick, 2, true, 0)
		late(t, s, api.MaxTick)
	}
}

// 19.2: each probe is late by its own beginning.
func TestLateApart(t *testing.T) {
	s := newSchedule(t, 3, probe.Asked{Every: 10, Timeout: 20, Up: 1, Down: 1}, 0)
	due(t, s, 0, 0, 1, 2)
	answer(t, s, 1, 2, true, 0)
	answer(t, s, 3, 0, true, 0)
	due(t, s, 11, 2)
	due(t, s, 13, 0)
	late(t, s, 19)
	late(t, s, 20, 1)
	late(t, s, 30, 1)
	late(t, s, 31, 1, 2)
	late(t, s, 33, 0, 1, 2)
	answer(t, s, 33, 1, true, 0)
	late(t, s, 43, 0, 2)
	due(t, s, 43, 1)
	late(t, s, 62, 0, 2)
	late(t, s, 63, 0, 1, 2)
}

// 19.1: with Every 0 nothing is ever due, so that nothing runs or is late either.
func TestNeverDue(t *testing.T) {
	for _, now := range []int{0, 5, api.MaxTick} {
		s := newSchedule(t, 2, probe.Asked{Every: 0, Timeout: 1, Up: 1, Down: 1}, now)
		for _, at := range []int{0, 4, 5, 6, 1000000, api.MaxTick, 0} {
			due(t, s, at)
			late(t, s, at)
			noNext(t, s)
			noAnswer(t, s, at, 0, api.ErrState)
			noAnswer(t, s, at, 1, api.ErrState)
			noAnswer(t, s, at, 2, api.ErrNone)
			healthy(t, s, true, 0, 1)
			healthy(t, s, false, 2, -1)
		}
		for _, at := range noMoments {
			if l, e := s.Due(at); len(l) != 0 || e != api.ErrArg {
				t.Errorf("Due(%d): %v, %v", at, l, e)
			}
		}
	}
}

// 19.2, 19.3: ends and next moments beyond the greatest moment are that one.
func TestGreatest(t *testing.T) {
	a := probe.Asked{Every: 10, Timeout: 3, Up: 1, Down: 1}
	s := newSchedule(t, 2, a, api.MaxTick-20)
	due(t, s, api.MaxTick-4, 0, 1)
	next(t, s, api.MaxTick-1)
	late(t, s, api.MaxTick-2)
	late(t, s, api.MaxTick-1, 0, 1)
	answer(t, s, api.MaxTick-1, 1, true, 0)
	due(t, s, api.MaxTick-1)
	answer(t, s, api.MaxTick-1, 0, true, 0)
	next(t, s, api.MaxTick)
	due(t, s, api.MaxTick, 0, 1)
	due(t, s, api.MaxTick)
	next(t, s, api.MaxTick)
	late(t, s, api.MaxTick, 0, 1)
	answer(t, s, api.MaxTick, 0, false, 2)
	next(t, s, api.MaxTick)
	due(t, s, api.MaxTick, 0)
	for _, x := range []struct{ begin, late, next int }{
		{13, 10, 3}, {11, 8, 1}, {10, 7, 0}, {9, 6, 0}, {3, 0, 0}, {2, 0, 0}, {1, 0, 0}, {0, 0, 0},
	} {
		s := newSchedule(t, 1, a, api.MaxTick-x.begin)
		due(t, s, api.MaxTick-x.begin, 0)
		next(t, s, api.MaxTick-x.late)
		answer(t, s, api.MaxTick-x.begin, 0, true, 0)
		next(t, s, api.MaxTick-x.next)
	}
	s = newSchedule(t, 1, probe.Asked{Every: 1000000, Timeout: 1000000, Up: 1, Down: 1}, api.MaxTick-1000000)
	due(t, s, api.MaxTick-1000000, 0)
	next(t, s, api.MaxTick)
	late(t, s, api.MaxTick-1)
	late(t, s, api.MaxTick, 0)
}

// probed is one probe of the host 0 and its answer, a tick later, at the moment at which it is due.
func probed(t *testing.T, s *probe.Schedule, ok bool, want int) {
	t.Helper()
	at, _ := s.Next()
	due(t, s, at, 0)
	answer(t, s, at+1, 0, ok, want)
}

// times is the same answer so many times, which changes nothing.
func times(t *testing.T, s *probe.Schedule, n int, ok bool) {
	t.Helper()
	for range n {
		probed(t, s, ok, 0)
	}
}

// 19.3: Down bad answers in a row make it unhealthy, Up good ones healthy again; one of the other kind begins the row anew, and what comes beyond changes nothing.
func TestInARow(t *testing.T) {
	for _, up := range []int{1, 2, 3, 99, 100} {
		for _, down := range []int{1, 2, 3, 99, 100} {
			s := newSchedule(t, 1, probe.Asked{Every: 1, Timeout: 5, Up: up, Down: down}, 0)
			// As they say already: good ones of a healthy host.
			times(t, s, up+2, true)
			for range 3 {
				times(t, s, down-1, false)
				probed(t, s, true, 0)
			}
			times(t, s, up, true)
			times(t, s, down-1, false)
			healthy(t, s, true, 0)
			probed(t, s, false, 2)
			healthy(t, s, false, 0)
			// And bad ones of one that is not.
			times(t, s, down+2, false)
			for range 3 {
				times(t, s, up-1, true)
				probed(t, s, false, 0)
			}
			times(t, s, down, false)
			times(t, s, up-1, true)
			healthy(t, s, false, 0)
			probed(t, s, true, 1)
			healthy(t, s, true, 0)
			times(t, s, 1, true)
			times(t, s, down-1, false)
			probed(t, s, false, 2)
			times(t, s, up-1, true)
			probed(t, s, true, 1)
			if t.Failed() {
				t.Fatalf("Up %d, Down %d", up, down)
			}
		}
	}
}

// 19.3: answers are each host's own, and so is its health.
func TestRowsApart(t *testing.T) {
	s := newSchedule(t, 3, probe.Asked{Every: 10, Timeout: 5, Up: 2, Down: 2}, 0)
	due(t, s, 0, 0, 1, 2)
	answer(t, s, 0, 2, false, 0)
	answer(t, s, 0, 1, true, 0)
	answer(t, s, 0, 0, false, 0)
	due(t, s, 10, 0, 1, 2)
	answer(t, s, 10, 0, true, 0)
	answer(t, s, 10, 1, false, 0)
	answer(t, s, 10, 2, false, 2)
	healthy(t, s, true, 0, 1)
	healthy(t, s, false, 2)
	due(t, s, 20, 0, 1, 2)
	answer(t, s, 20, 0, false, 0)
	answer(t, s, 20, 1, false, 2)
	answer(t, s, 20, 2, true, 0)
	healthy(t, s, true, 0)
	healthy(t, s, false, 1, 2)
	due(t, s, 30, 0, 1, 2)
	answer(t, s, 30, 2, true, 1)
	answer(t, s, 30, 1, true, 0)
	healthy(t, s, true, 0, 2)
	healthy(t, s, false, 1)
}

// 19.3: the next moment is later by Every than the answer, not than the beginning, whether it is early, just late or late for long, good or bad.
func TestNextMoment(t *testing.T) {
	for _, took := range []int{0, 1, 2, 3, 4, 100} {
		for _, ok := range []bool{true, false} {
			s := newSchedule(t, 1, probe.Asked{Every: 10, Timeout: 3, Up: 1, Down: 1}, 0)
			due(t, s, 7, 0)
			change := 2
			if ok {
				change = 0
			}
			answer(t, s, 7+took, 0, ok, change)
			noAnswer(t, s, 7+took, 0, api.ErrState)
			late(t, s, 7+took)
			next(t, s, 17+took)
			due(t, s, 16+took)
			late(t, s, 16+took)
			due(t, s, 17+took, 0)
		}
	}
}

// 19.3: Next is the least: of all that wait, of one that runs among others, and of all that run.
func TestNext(t *testing.T) {
	s := newSchedule(t, 3, probe.Asked{Every: 10, Timeout: 4, Up: 1, Down: 1}, 6)
	next(t, s, 6)
	due(t, s, 6, 0, 1, 2)
	next(t, s, 10)
	answer(t, s, 7, 1, true, 0)
	next(t, s, 10)
	answer(t, s, 8, 0, true, 0)
	next(t, s, 10)
	answer(t, s, 9, 2, true, 0)
	next(t, s, 17)
	due(t, s, 17, 1)
	// Of the one that runs it is 21, of those that wait 18 and 19.
	next(t, s, 18)
	due(t, s, 18, 0)
	next(t, s, 19)
	due(t, s, 20, 2)
	next(t, s, 21)
	answer(t, s, 20, 1, true, 0)
	next(t, s, 22)
	answer(t, s, 20, 0, true, 0)
	next(t, s, 24)
	late(t, s, 29, 2)
	next(t, s, 24)
	answer(t, s, 29, 2, false, 2)
	next(t, s, 30)
	// Nothing is changed by it, and moments that go by change nothing in it.
	due(t, s, 29)
	late(t, s, 1000)
	next(t, s, 30)
	next(t, s, 30)
}

// Words: an earlier moment than the last one is taken as that, in each call, whichever was asked last.
func TestBackwards(t *testing.T) {
	for _, x := range []struct {
		name      string
		ask       func(s *probe.Schedule)
		late, due []int
	}{
		{"Due", func(s *probe.Schedule) { due(t, s, 100, 2) }, []int{0, 1}, nil},
		{"Late", func(s *probe.Schedule) { late(t, s, 100, 0, 1) }, []int{0, 1}, []int{2}},
		{"Answer", func(s *probe.Schedule) { answer(t, s, 100, 1, true, 0) }, []int{0}, []int{2}},
	} {
		// By 100 the probes of 0 and 1 are late, and 2 is due.
		asked := func() *probe.Schedule {
			s := newSchedule(t, 3, probe.Asked{Every: 60, Timeout: 80, Up: 1, Down: 1}, 0)
			due(t, s, 0, 0, 1, 2)
			answer(t, s, 0, 2, true, 0)
			x.ask(s)
			return s
		}
		late(t, asked(), 50, x.late...)
		s := asked()
		due(t, s, 50, x.due...)
		late(t, s, 0, x.late...)
		// The probe of 2 runs since 100, not since 50.
		late(t, s, 179, x.late...)
		late(t, s, 180, append(x.late, 2)...)
		// What is answered at 50 is so at 100.
		s = asked()
		answer(t, s, 50, 0, true, 0)
		due(t, s, 159, x.due...)
		l, e := s.Due(160)
		if !slices.Contains(l, 0) || e != api.OK {
			t.Errorf("Due(160): %v, %v", l, e)
		}
		if t.Failed() {
			t.Fatalf("asked by %s", x.name)
		}
	}
}

// Words: to tell of health and of Next asks at no moment, and New is no asking: ahead of its moment a schedule may be asked.
func TestNoAsking(t *testing.T) {
	s := newSchedule(t, 2, probe.Asked{Every: 10, Timeout: 3, Up: 1, Down: 1}, 50)
	late(t, s, 20)
	due(t, s, 49)
	healthy(t, s, true, 0, 1)
	next(t, s, 50)
	due(t, s, 49)
	due(t, s, 50, 0, 1)
	next(t, s, 53)
	healthy(t, s, true, 0, 1)
	answer(t, s, 51, 0, true, 0)
	next(t, s, 53)
	late(t, s, 52)
	due(t, s, 60)
	due(t, s, 61, 0)
}

// noHosts are none of 3 hosts.
var noHosts = []int{-1, math.MinInt, 3, 16, math.MaxInt}

// wrong makes calls that must not go well, of a schedule of 3 hosts, those of rest without a probe that runs.
func wrong(t *testing.T, s *probe.Schedule, rest ...int) {
	t.Helper()
	for _, now := range noMoments {
		if l, e := s.Due(now); len(l) != 0 || e != api.ErrArg {
			t.Errorf("Due(%d): %v, %v", now, l, e)
		}
		if l, e := s.Late(now); len(l) != 0 || e != api.ErrArg {
			t.Errorf("Late(%d): %v, %v", now, l, e)
		}
		for _, host := range append(noHosts, 0, 1, 2) {
			noAnswer(t, s, now, host, api.ErrArg)
		}
	}
	for _, now := range []int{0, 5, 10, 1000, api.MaxTick} {
		for _, host := range noHosts {
			noAnswer(t, s, now, host, api.ErrNone)
		}
		for _, host := range rest {
			noAnswer(t, s, now, host, api.ErrState)
		}
	}
	healthy(t, s, false, noHosts...)
}

// 19.2, 19.3, R4: what is no moment is told first, then that there is no such host, then that its probe does not run; none of them changes anything, nor is the schedule asked by it.
func TestWrong(t *testing.T) {
	s := newSchedule(t, 3, probe.Asked{Every: 10, Timeout: 5, Up: 2, Down: 2}, 3)
	wrong(t, s, 0, 1, 2)
	next(t, s, 3)
	due(t, s, 2)
	wrong(t, s, 0, 1, 2)
	due(t, s, 3, 0, 1, 2)
	wrong(t, s)
	late(t, s, 7)
	answer(t, s, 7, 1, false, 0)
	wrong(t, s, 1)
	next(t, s, 8)
	late(t, s, 8, 0, 2)
	wrong(t, s, 1)
	answer(t, s, 8, 0, false, 0)
	answer(t, s, 8, 2, true, 0)
	wrong(t, s, 0, 1, 2)
	next(t, s, 17)
	due(t, s, 16)
	wrong(t, s, 0, 1, 2)
	due(t, s, 17, 1)
	due(t, s, 18, 0, 2)
	wrong(t, s)
	answer(t, s, 19, 1, true, 0)
	wrong(t, s, 1)
	answer(t, s, 19, 0, false, 2)
	wrong(t, s, 0, 1)
	healthy(t, s, true, 1, 2)
	healthy(t, s, false, 0)
	due(t, s, 28)
	wrong(t, s, 0, 1)
	due(t, s, 29, 0, 1)
	answer(t, s, 29, 1, false, 0)
	answer(t, s, 29, 0, true, 0)
	wrong(t, s, 0, 1)
	due(t, s, 39, 0, 1)
	answer(t, s, 39, 0, true, 1)
	answer(t, s, 39, 1, false, 2)
	next(t, s, 23)
	late(t, s, 39, 2)
}

// 19.3: the last host is one, the next is none.
func TestLastHost(t *testing.T) {
	for _, n := range []int{1, 2, 15, 16} {
		s := newSchedule(t, n, probe.Asked{Every: 10, Timeout: 5, Up: 1, Down: 1}, 0)
		due(t, s, 0, numbered(n)...)
		noAnswer(t, s, 0, n, api.ErrNone)
		healthy(t, s, false, n)
		healthy(t, s, true, numbered(n)...)
		answer(t, s, 1, n-1, false, 2)
		healthy(t, s, false, n-1)
		healthy(t, s, true, numbered(n-1)...)
		late(t, s, 10, numbered(n-1)...)
		due(t, s, 11, n-1)
	}
}

// R3: who writes to what was told, spare room too, changes neither the schedule nor another answer.
func TestAnswersShareNothing(t *testing.T) {
	scribble := func(l []int) {
		for i := range l[:cap(l)] {
			l[:cap(l)][i] = -7
		}
	}
	s := newSchedule(t, 11, probe.Asked{Every: 10, Timeout: 3, Up: 1, Down: 1}, 0)
	for now := 0; now < 100; now += 13 {
		begun, _ := s.Due(now)
		first, _ := s.Late(now + 3)
		second, _ := s.Late(now + 3)
		scribble(first)
		if !slices.Equal(begun, numbered(11)) || !slices.Equal(second, begun) {
			t.Errorf("other answers became %v, %v", begun, second)
		}
		scribble(begun)
		if !slices.Equal(second, numbered(11)) {
			t.Errorf("another answer became %v", second)
		}
		scribble(second)
		next(t, s, now+3)
		late(t, s, now+3, numbered(11)...)
		for host := range 11 {
			answer(t, s, now+3, host, true, 0)
		}
		healthy(t, s, true, numbered(11)...)
		next(t, s, now+13)
	}
}

// Schedules do not hang together.
func TestApart(t *testing.T) {
	x := probe.Asked{Every: 10, Timeout: 3, Up: 1, Down: 1}
	a, b := newSchedule(t, 2, x, 0), newSchedule(t, 2, x, 0)
	due(t, a, 50, 0, 1)
	answer(t, a, 50, 1, false, 2)
	healthy(t, b, true, 1)
	next(t, b, 0)
	noAnswer(t, b, 0, 0, api.ErrState)
	due(t, b, 4, 0, 1)
	late(t, b, 6)
	late(t, b, 7, 0, 1)
	next(t, a, 53)
}

// P1, R6: a nil schedule, and one that New did not make, have no hosts, and nothing is due.
func TestNoSchedule(t *testing.T) {
	for _, s := range []*probe.Schedule{nil, {}} {
		for _, now := range []int{0, 1, 7, api.MaxTick, 3} {
			due(t, s, now)
			late(t, s, now)
			noNext(t, s)
			for _, host := range []int{0, 1, -1, 15, 16, math.MaxInt, math.MinInt} {
				noAnswer(t, s, now, host, api.ErrNone)
				healthy(t, s, false, host)
			}
		}
		wrong(t, s)
		for _, now := range noMoments {
			noAnswer(t, s, now, 0, api.ErrArg)
		}
	}
}
