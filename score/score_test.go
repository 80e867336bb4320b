package score_test

import (
	"math"
	"math/rand"
	"testing"

	"headrace/api"
	"headrace/score"
)

const greatest = 1000000

// noNumbers are neither samples nor how many may run.
var noNumbers = []int{-1, -greatest, math.MinInt, greatest + 1, math.MaxInt}

func newScore(t *testing.T) *score.Score {
	t.Helper()
	s := score.New()
	if s == nil {
		t.Fatal("New: nil")
	}
	return s
}

// add adds a sample, and looks at the mean by both ways.
func add(t *testing.T, s *score.Score, sample, want int) {
	t.Helper()
	if m, e := s.Add(sample); m != want || e != api.OK {
		t.Errorf("Add(%d): %d, %v; want %d", sample, m, e, want)
	}
	mean(t, s, want)
}

func mean(t *testing.T, s *score.Score, want int) {
	t.Helper()
	if m := s.Mean(); m != want {
		t.Errorf("Mean: %d; want %d", m, want)
	}
}

func load(t *testing.T, s *score.Score, running, want int) {
	t.Helper()
	if n, e := s.Load(running); n != want || e != api.OK {
		t.Errorf("Load(%d): %d, %v; want %d", running, n, e, want)
	}
}

// wrong makes calls that must not go well, and change nothing.
func wrong(t *testing.T, s *score.Score) {
	t.Helper()
	before := s.Mean()
	for _, n := range noNumbers {
		if m, e := s.Add(n); m != 0 || e != api.ErrArg {
			t.Errorf("Add(%d): %d, %v", n, m, e)
		}
		if l, e := s.Load(n); l != 0 || e != api.ErrArg {
			t.Errorf("Load(%d): %d, %v", n, l, e)
		}
	}
	mean(t, s, before)
}

// The chapter's example.
func TestExample(t *testing.T) {
	s := newScore(t)
	add(t, s, 8, 8192)
	add(t, s, 0, 7168)
	load(t, s, 1, 16384)
}

// 20.1: without samples the mean is 0; a sample of 0 leaves it so.
func TestNew(t *testing.T) {
	if score.MaxSample != greatest {
		t.Errorf("MaxSample: %d", score.MaxSample)
	}
	s := newScore(t)
	mean(t, s, 0)
	load(t, s, 0, 1024)
	add(t, s, 0, 0)
	add(t, s, 0, 0)
	add(t, s, 1, 1024)
}

// 20.1: it rises at once, to the very sample, from the least to the greatest.
func TestRises(t *testing.T) {
	for _, sample := range []int{1, 2, 7, 8, 999, 999999, greatest} {
		add(t, newScore(t), sample, 1024*sample)
	}
	s := newScore(t)
	for _, sample := range []int{1, 2, 3, 10, 11, 1000, 999999, greatest} {
		add(t, s, sample, 1024*sample)
	}
	// From between two samples it rises to the next one, however near.
	s = newScore(t)
	add(t, s, 8, 8192)
	add(t, s, 1, 7296)
	add(t, s, 8, 8192)
}

// 20.1: of a sample that is just the mean nothing changes; one tick more it rises to; one less takes an eighth of that tick away.
func TestAroundTheMean(t *testing.T) {
	for _, sample := range []int{1, 2, 500, 999999} {
		s := newScore(t)
		add(t, s, sample, 1024*sample)
		add(t, s, sample, 1024*sample)
		add(t, s, sample-1, 1024*sample-128)
		s = newScore(t)
		add(t, s, sample, 1024*sample)
		add(t, s, sample+1, 1024*sample+1024)
		add(t, s, sample+1, 1024*sample+1024)
	}
}

// 20.1: it falls by an eighth of what it is too great, rounded down, where 8 divides that and where it does not.
func TestFalls(t *testing.T) {
	s := newScore(t)
	add(t, s, 1, 1024)
	for _, want := range []int{896, 784, 686, 601, 526, 461, 404, 354, 310, 272, 238, 209, 183, 161, 141, 124, 109, 96, 84, 74, 65, 57, 50, 44, 39, 35, 31, 28, 25, 22, 20, 18, 16, 14, 13, 12, 11, 10, 9, 8, 7, 7, 7} {
		add(t, s, 0, want)
	}
	add(t, s, 1, 1024)
	// The same above another sample than 0.
	s = newScore(t)
	add(t, s, 101, 102400+1024)
	for _, want := range []int{896, 784, 686, 601, 526, 461} {
		add(t, s, 100, 102400+want)
	}
	add(t, s, 99, 102400+461-185) // 461 and 1024 are 1485
	add(t, s, 0, 89842)           // 102676, of which an eighth is 12834 and a half
}

// 20.1, 20.3: less than 8 above the sample nothing falls any more.
func TestStaysAbove(t *testing.T) {
	for _, sample := range []int{0, 1, 999, greatest - 1} {
		s := newScore(t)
		s.Add(greatest)
		before := s.Mean()
		for range 300 {
			now, _ := s.Add(sample)
			if over := before - 1024*sample; over < 8 && now != before || over >= 8 && now >= before {
				t.Fatalf("of %d again: %d became %d", sample, before, now)
			}
			before = now
		}
		if over := before - 1024*sample; over != 7 {
			t.Errorf("of %d again and again: %d above", sample, over)
		}
	}
}

// 20.1: the greatest mean, and how it falls.
func TestGreatest(t *testing.T) {
	s := newScore(t)
	add(t, s, greatest, 1024000000)
	add(t, s, greatest, 1024000000)
	add(t, s, 0, 896000000)
	add(t, s, greatest, 1024000000)
	add(t, s, greatest-1, 1024000000-128)
	add(t, s, greatest, 1024000000)
}

// 20.2: the mean and a tick, times one more than run; it changes nothing.
func TestLoad(t *testing.T) {
	for _, sample := range []int{0, 1, 8, 999999, greatest} {
		s := newScore(t)
		add(t, s, sample, 1024*sample)
		for _, running := range []int{0, 1, 2, 999, 999999, greatest} {
			load(t, s, running, (1024*sample+1024)*(running+1))
		}
		mean(t, s, 1024*sample)
	}
	s := newScore(t)
	add(t, s, greatest, 1024000000)
	load(t, s, 0, 1024001024)
	load(t, s, greatest, 1024002048001024)
	// A mean that is no whole tick.
	s = newScore(t)
	add(t, s, 1, 1024)
	add(t, s, 0, 896)
	load(t, s, 0, 1920)
	load(t, s, 2, 5760)
}

// 20.1, 20.2, R4: what is out of its range is an error, and changes nothing.
func TestWrong(t *testing.T) {
	s := newScore(t)
	wrong(t, s)
	add(t, s, 8, 8192)
	wrong(t, s)
	add(t, s, 0, 7168)
	wrong(t, s)
	add(t, s, 7, 7168)
	load(t, s, 1, 16384)
	wrong(t, s)
	add(t, s, greatest, 1024000000)
	wrong(t, s)
}

// Scores do not hang together.
func TestApart(t *testing.T) {
	a, b := newScore(t), newScore(t)
	add(t, a, 5, 5120)
	mean(t, b, 0)
	add(t, b, 2, 2048)
	mean(t, a, 5120)
	add(t, a, 0, 4480)
	load(t, b, 0, 3072)
}

// P1, R6: a nil score's mean is 0 and stays so; one that New did not make is without samples.
func TestNoScore(t *testing.T) {
	var s *score.Score
	for _, n := range []int{0, 1, 8, greatest} {
		add(t, s, n, 0)
		load(t, s, n, 1024*(n+1))
		wrong(t, s)
	}
	s = &score.Score{}
	mean(t, s, 0)
	add(t, s, 8, 8192)
}

// 20.1, 20.3: over many drawn sequences of samples the mean is as the words tell, and keeps what follows from them.
func TestDrawn(t *testing.T) {
	r := rand.New(rand.NewSource(20))
	fell := 0
	for range 3000 {
		s := newScore(t)
		before, most := 0, 0
		bound := []int{2, 10, 1000, greatest + 1}[r.Intn(4)]
		for range 100 {
			sample := r.Intn(bound)
			for range 1 + r.Intn(5) {
				x := 1024 * sample
				most = max(most, x)
				want := x
				if x <= before {
					want = (7*before + x + 7) / 8 // seven eighths of it and one of the sample, rounded up
					fell++
				}
				add(t, s, sample, want)
				now := s.Mean()
				if now > most || now < x || 8*(before-now) > before {
					t.Errorf("of %d, the greatest of %d: %d became %d", sample, most, before, now)
				}
				before = now
			}
		}
		settles(t, s, r.Intn(bound), before)
		if t.Failed() {
			t.FailNow()
		}
	}
	if fell < 100000 {
		t.Errorf("it fell %d times: too few to tell anything", fell)
	}
}

// settles adds a sample again and again, of which the mean comes to less than 8 above it, and stays there.
func settles(t *testing.T, s *score.Score, sample, before int) {
	t.Helper()
	for range 300 {
		s.Add(sample)
	}
	now, _ := s.Add(sample)
	again, _ := s.Add(sample)
	if over := now - 1024*sample; over < 0 || over >= 8 || again != now {
		t.Errorf("of %d again and again: %d becomes %d, then %d", sample, before, now, again)
	}
}
