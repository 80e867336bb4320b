package bucket_test

import (
	"math/big"
	"math/rand"
	"slices"
	"testing"

	"headrace/api"
	"headrace/bucket"
)

// model is a bucket by the chapter's words alone, in numbers that do not wrap round.
type model struct {
	rate, per, level, full *big.Int
	at                     int
}

func newModel(rate, per, burst, now int) *model {
	full := new(big.Int).Mul(whole(burst), whole(per))
	return &model{rate: whole(rate), per: whole(per), level: full, full: full, at: now}
}

func whole(n int) *big.Int { return big.NewInt(int64(n)) }

// levelAt is what the level is at a moment that is behind its own.
func (m *model) levelAt(now int) *big.Int {
	level := new(big.Int).Mul(m.rate, whole(now-m.at))
	level.Add(level, m.level)
	if level.Cmp(m.full) > 0 {
		return m.full
	}
	return level
}

func (m *model) bring(now int) {
	if now > m.at {
		m.level, m.at = m.levelAt(now), now
	}
}

func (m *model) take(now int) bool {
	m.bring(now)
	if m.level.Cmp(m.per) < 0 {
		return false
	}
	m.level = new(big.Int).Sub(m.level, m.per)
	return true
}

func (m *model) tokens(now int) int {
	m.bring(now)
	return int(new(big.Int).Div(m.level, m.per).Int64())
}

// next looks for the moment by halves, since the level never falls.
func (m *model) next() (int, bool) {
	has := func(now int) bool { return m.levelAt(now).Cmp(m.per) >= 0 }
	if !has(api.MaxTick) {
		return 0, false
	}
	low, high := m.at, api.MaxTick
	for low < high {
		middle := low + (high-low)/2
		if has(middle) {
			high = middle
		} else {
			low = middle + 1
		}
	}
	return low, true
}

// drawn are a bucket's numbers: mostly small ones, where much happens; now and then the greatest.
type drawn struct{ rate, per, burst, start int }

func draw(r *rand.Rand) drawn {
	d := drawn{r.Intn(6), 1 + r.Intn(8), r.Intn(5), r.Intn(20)}
	switch r.Intn(8) {
	case 0:
		d.rate = 1000000 - r.Intn(2)
	case 1:
		d.per = 1000000 - r.Intn(2)
	case 2:
		d.rate, d.per = 900000+r.Intn(100001), 900000+r.Intn(100001)
	case 3:
		d.burst = 1000000 - r.Intn(2)
	}
	switch r.Intn(6) {
	case 0:
		d.start = api.MaxTick - r.Intn(30)
	case 1:
		d.start = 1<<61 + r.Intn(30)
	}
	return d
}

// goOn is a moment some way behind another one, seldom far.
func goOn(r *rand.Rand, now int) int {
	d := r.Intn(4)
	switch r.Intn(24) {
	case 0:
		d = r.Intn(2000000)
	case 1:
		d = r.Intn(1 << 61)
	case 2:
		d = api.MaxTick - now
	}
	return min(now+d, api.MaxTick)
}

// 15.1: over many drawn sequences of calls, moments that go back among them, all is as the model tells.
func TestAgainstModel(t *testing.T) {
	r := rand.New(rand.NewSource(15))
	for range 4000 {
		d := draw(r)
		b, m := newBucket(t, d.rate, d.per, d.burst, d.start), newModel(d.rate, d.per, d.burst, d.start)
		now := d.start
		for range 40 {
			now = goOn(r, now)
			asked := now
			if r.Intn(5) == 0 {
				asked = max(0, now-r.Intn(10))
			}
			switch r.Intn(5) {
			case 0:
				tokens(t, b, asked, m.tokens(asked))
			case 1:
				if at, ok := m.next(); ok {
					next(t, b, at)
				} else {
					noNext(t, b)
				}
			default:
				take(t, b, asked, m.take(asked))
			}
		}
		if t.Failed() {
			t.Fatalf("at %+v", d)
		}
	}
}

// most is how many may be taken in so many ticks, by 15.3.
func (d drawn) most(ticks int) *big.Int {
	n := new(big.Int).Mul(whole(d.rate), whole(ticks))
	n.Div(n, whole(d.per))
	return n.Add(n, whole(d.burst+1))
}

// 15.3: between any two moments no more are taken than it says; a moment that goes back is the bucket's own.
func TestRate(t *testing.T) {
	r := rand.New(rand.NewSource(153))
	for range 3000 {
		d := draw(r)
		d.burst = min(d.burst, 20)
		b := newBucket(t, d.rate, d.per, d.burst, d.start)
		now, own := d.start, d.start
		var taken []int
		for range 60 {
			if r.Intn(3) == 0 {
				now = goOn(r, now)
			}
			asked := max(0, now-r.Intn(3)*r.Intn(9))
			own = max(own, asked)
			if ok, _ := b.Take(asked); ok {
				taken = append(taken, own)
			}
			if r.Intn(4) == 0 {
				b.Tokens(now)
				own = now
			}
			b.Next()
		}
		for i, s := range taken {
			for j, u := range taken[i:] {
				if d.most(u-s).Cmp(whole(j+1)) < 0 {
					t.Fatalf("%+v: %d tokens from %d to %d", d, j+1, s, u)
				}
			}
		}
	}
}

// 15.3: who asks at each tick gets them all: burst at once, then the rate, with nothing lost where a tick's does not go over the burst.
func TestSteady(t *testing.T) {
	for _, d := range []drawn{{1, 10, 2, 0}, {3, 10, 2, 5}, {7, 10, 4, 0}, {10, 3, 4, 9}, {999999, 1000000, 2, 0}, {1, 1, 1, api.MaxTick - 500}, {2, 7, 3, api.MaxTick - 500}} {
		b := newBucket(t, d.rate, d.per, d.burst, d.start)
		taken := 0
		for ticks := range 500 {
			taken += drain(t, b, d.start+ticks)
			if want := d.burst + ticks*d.rate/d.per; taken != want {
				t.Fatalf("%+v: %d tokens behind %d ticks; want %d", d, taken, ticks, want)
			}
		}
	}
}

// What is taken is the same, though Tokens and Next are asked between, at moments up to the next Take's.
func TestAskedBetween(t *testing.T) {
	r := rand.New(rand.NewSource(151))
	for range 2000 {
		d := draw(r)
		quiet, asked := newBucket(t, d.rate, d.per, d.burst, d.start), newBucket(t, d.rate, d.per, d.burst, d.start)
		now := d.start
		for range 30 {
			then := goOn(r, now)
			for range r.Intn(4) {
				asked.Tokens(now + r.Intn(then-now+1))
				asked.Next()
			}
			now = then
			x, e := quiet.Take(now)
			if e != api.OK {
				t.Fatal(e)
			}
			take(t, asked, now, x)
		}
		if t.Failed() {
			t.Fatalf("at %+v", d)
		}
	}
}

// 15.1: at what Next tells there is a token, and a tick ahead of it there is none.
func TestNextIsFirst(t *testing.T) {
	r := rand.New(rand.NewSource(152))
	for range 2000 {
		d := draw(r)
		d.burst = min(d.burst, 50)
		// The same bucket, as often as it is asked for.
		waits := []int{goOn(r, d.start), goOn(r, d.start), goOn(r, d.start)}
		slices.Sort(waits)
		again := func() *bucket.Bucket {
			b := newBucket(t, d.rate, d.per, d.burst, d.start)
			drain(t, b, d.start)
			for _, now := range waits {
				b.Take(now)
			}
			return b
		}
		at, ok := again().Next()
		if !ok {
			take(t, again(), api.MaxTick, false)
			continue
		}
		take(t, again(), at, true)
		if own := waits[2]; at > own {
			take(t, again(), at-1, false)
			take(t, again(), own, false)
		} else if at < own {
			t.Errorf("%+v: Next %d, ahead of %d", d, at, own)
		}
	}
}
