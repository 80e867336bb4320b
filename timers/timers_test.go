package timers_test

import (
	"cmp"
	"math"
	"math/rand"
	"slices"
	"testing"

	"headrace/api"
	"headrace/timers"
)

// noMoments lie outside on both sides, as near and as far as they may.
var noMoments = []int{-1, math.MinInt, api.MaxTick + 1, math.MaxInt}

func newTimers(t *testing.T, most int) *timers.Timers {
	t.Helper()
	x, e := timers.New(most)
	if x == nil || e != api.OK {
		t.Fatalf("New(%d): %v, %v", most, x, e)
	}
	return x
}

// handle is what the document says of a handle.
func handle(generation, slot int) int { return generation*4096 + slot }

func set(t *testing.T, x *timers.Timers, at, key, want int) {
	t.Helper()
	if h, e := x.Set(at, key); h != want || e != api.OK {
		t.Errorf("Set(%d, %d): %d, %v; want %d", at, key, h, e, want)
	}
}

func setFails(t *testing.T, x *timers.Timers, at int, want api.Errno) {
	t.Helper()
	if h, e := x.Set(at, 1); h != 0 || e != want {
		t.Errorf("Set(%d): %d, %v; want 0, %v", at, h, e, want)
	}
}

func cancel(t *testing.T, x *timers.Timers, h int, want bool) {
	t.Helper()
	if ok := x.Cancel(h); ok != want {
		t.Errorf("Cancel(%d): %v", h, ok)
	}
}

func has(t *testing.T, x *timers.Timers, h int, want bool) {
	t.Helper()
	if ok := x.Has(h); ok != want {
		t.Errorf("Has(%d): %v", h, ok)
	}
}

func fire(t *testing.T, x *timers.Timers, now int, want ...int) {
	t.Helper()
	if l := x.Fire(now); !slices.Equal(l, want) {
		t.Errorf("Fire(%d): %v; want %v", now, l, want)
	}
}

// holds looks at how many there are, and at the first moment (0, if there is none).
func holds(t *testing.T, x *timers.Timers, n, first int) {
	t.Helper()
	at, ok := x.Next()
	if x.Len() != n || at != first || ok != (n > 0) {
		t.Errorf("Len %d, Next %d, %v; want %d, %d, %v", x.Len(), at, ok, n, first, n > 0)
	}
}

// 3.1: how many timers there may be, at its edges.
func TestNew(t *testing.T) {
	for _, most := range []int{1, 2, api.MaxTimers - 1, api.MaxTimers} {
		x := newTimers(t, most)
		holds(t, x, 0, 0)
		fire(t, x, api.MaxTick)
		has(t, x, handle(1, 0), false)
	}
	for _, most := range []int{0, -1, math.MinInt, api.MaxTimers + 1, math.MaxInt} {
		if x, e := timers.New(most); x != nil || e != api.ErrArg {
			t.Errorf("New(%d): %v, %v", most, x, e)
		}
	}
}

// The chapter's example.
func TestExample(t *testing.T) {
	x := newTimers(t, api.MaxTimers)
	set(t, x, 5, 1, 4096)
	set(t, x, 3, 2, 4097)
	holds(t, x, 2, 3)
	fire(t, x, 5, 2, 1)
	set(t, x, 9, 3, 8192)
	cancel(t, x, 4096, false)
	holds(t, x, 1, 9)
}

// 3.1: any moment may be set, and any key; what is no moment changes nothing.
func TestSetMoments(t *testing.T) {
	x := newTimers(t, 4)
	set(t, x, api.MaxTick, math.MinInt, handle(1, 0))
	set(t, x, 0, math.MaxInt, handle(1, 1))
	set(t, x, api.MaxTick-1, 0, handle(1, 2))
	for _, at := range noMoments {
		setFails(t, x, at, api.ErrArg)
	}
	holds(t, x, 3, 0)
	set(t, x, 1, -1, handle(1, 3))
	fire(t, x, api.MaxTick-1, math.MaxInt, -1, 0)
	fire(t, x, api.MaxTick, math.MinInt)
}

// 3.1: no more than most; what is no moment is told ahead of that; neither changes anything.
func TestSetFull(t *testing.T) {
	x := newTimers(t, 2)
	set(t, x, 5, 1, handle(1, 0))
	set(t, x, 5, 2, handle(1, 1))
	for _, at := range []int{0, 5, api.MaxTick} {
		setFails(t, x, at, api.ErrFull)
	}
	for _, at := range noMoments {
		setFails(t, x, at, api.ErrArg)
	}
	holds(t, x, 2, 5)
	cancel(t, x, handle(1, 1), true)
	set(t, x, 4, 3, handle(2, 1))
	setFails(t, x, 4, api.ErrFull)
	fire(t, x, 4, 3)
	set(t, x, 6, 4, handle(3, 1))
	setFails(t, x, 6, api.ErrFull)
	fire(t, x, 6, 1, 4)
}

// 3.1, 3.3: as many as there may be at all, all of them of one moment.
func TestMostTimers(t *testing.T) {
	x := newTimers(t, api.MaxTimers)
	var keys []int
	for i := range api.MaxTimers {
		set(t, x, 7, -i, handle(1, i))
		keys = append(keys, -i)
	}
	setFails(t, x, 7, api.ErrFull)
	holds(t, x, api.MaxTimers, 7)
	cancel(t, x, handle(1, api.MaxTimers-1), true)
	set(t, x, 7, 1-api.MaxTimers, handle(2, api.MaxTimers-1))
	fire(t, x, 6)
	fire(t, x, 7, keys...)
	holds(t, x, 0, 0)
	set(t, x, 1, 1, handle(2, 0))
}

// The least free slot is taken, in whatever order slots became free; its generation counts what lay in it.
func TestLeastFreeSlot(t *testing.T) {
	x := newTimers(t, 6)
	for i := range 5 {
		set(t, x, 10+i, i, handle(1, i))
	}
	for _, slot := range []int{3, 1, 4} {
		cancel(t, x, handle(1, slot), true)
	}
	set(t, x, 20, 21, handle(2, 1))
	set(t, x, 20, 23, handle(2, 3))
	cancel(t, x, handle(2, 1), true)
	set(t, x, 20, 31, handle(3, 1))
	set(t, x, 20, 24, handle(2, 4))
	set(t, x, 20, 25, handle(1, 5))
	setFails(t, x, 20, api.ErrFull)
	fire(t, x, 20, 0, 2, 23, 31, 24, 25)
	for i, generation := range []int{2, 4, 2, 3, 3, 2} {
		set(t, x, 1, i, handle(generation, i))
	}
}

// 3.2: a timer is cancelled once; what is no handle has none.
func TestCancel(t *testing.T) {
	x := newTimers(t, 4)
	set(t, x, 5, 1, handle(1, 0))
	set(t, x, 6, 2, handle(1, 1))
	for _, h := range []int{0, 1, -1, 4095, handle(1, 2), handle(2, 0), handle(2, 1), handle(1, 0) - 1, -handle(1, 0), -handle(1, 1), math.MinInt, math.MaxInt} {
		has(t, x, h, false)
		cancel(t, x, h, false)
	}
	holds(t, x, 2, 5)
	has(t, x, handle(1, 0), true)
	has(t, x, handle(1, 1), true)
	cancel(t, x, handle(1, 0), true)
	has(t, x, handle(1, 0), false)
	has(t, x, handle(1, 1), true)
	cancel(t, x, handle(1, 0), false)
	holds(t, x, 1, 6)
	fire(t, x, 9, 2)
	cancel(t, x, handle(1, 1), false)
	has(t, x, handle(1, 1), false)
	holds(t, x, 0, 0)
}

// 3.4: a handle that is old has no timer again, though another one lies in its slot.
func TestStale(t *testing.T) {
	x := newTimers(t, 1)
	for g := 1; g <= 50; g++ {
		set(t, x, g, g, handle(g, 0))
		for old := 1; old < g; old++ {
			has(t, x, handle(old, 0), false)
			cancel(t, x, handle(old, 0), false)
		}
		has(t, x, handle(g, 0), true)
		has(t, x, handle(g+1, 0), false)
		holds(t, x, 1, g)
		if g%2 == 0 {
			fire(t, x, g, g)
		} else {
			cancel(t, x, handle(g, 0), true)
		}
		has(t, x, handle(g, 0), false)
	}
}

// 3.3: those of one moment in the order in which they were set, whichever slots they lie in.
func TestOneMoment(t *testing.T) {
	x := newTimers(t, 5)
	set(t, x, 1, 10, handle(1, 0))
	set(t, x, 8, 11, handle(1, 1))
	set(t, x, 8, 12, handle(1, 2))
	fire(t, x, 1, 10)
	set(t, x, 8, 13, handle(2, 0))
	cancel(t, x, handle(1, 1), true)
	set(t, x, 8, 14, handle(2, 1))
	set(t, x, 7, 15, handle(1, 3))
	set(t, x, 8, 12, handle(1, 4))
	fire(t, x, 8, 15, 12, 13, 14, 12)
}

// 3.3, 3.5: what is due at now, no more and no less; now may be any number.
func TestFire(t *testing.T) {
	x := newTimers(t, 8)
	for i, at := range []int{4, 0, 9, api.MaxTick, 4, 5} {
		set(t, x, at, i, handle(1, i))
	}
	fire(t, x, math.MinInt)
	fire(t, x, -1)
	holds(t, x, 6, 0)
	fire(t, x, 0, 1)
	fire(t, x, 3)
	holds(t, x, 5, 4)
	fire(t, x, 4, 0, 4)
	fire(t, x, 4)
	fire(t, x, 8, 5)
	fire(t, x, 0)
	set(t, x, 2, 7, handle(2, 0)) // behind what fired: it is due at once
	holds(t, x, 3, 2)
	fire(t, x, 8, 7)
	fire(t, x, api.MaxTick-1, 2)
	holds(t, x, 1, api.MaxTick)
	fire(t, x, math.MaxInt, 3)
	fire(t, x, math.MaxInt)
	holds(t, x, 0, 0)
}

// 3.3: nil timers have none and no room.
func TestNilTimers(t *testing.T) {
	var x *timers.Timers
	for _, at := range noMoments {
		setFails(t, x, at, api.ErrArg)
	}
	for _, at := range []int{0, 5, api.MaxTick} {
		setFails(t, x, at, api.ErrFull)
	}
	for _, h := range []int{math.MinInt, -1, 0, handle(1, 0), math.MaxInt} {
		has(t, x, h, false)
		cancel(t, x, h, false)
		fire(t, x, h)
	}
	holds(t, x, 0, 0)
}

// P1: timers that New did not make end their calls too.
func TestZeroTimers(t *testing.T) {
	var x timers.Timers
	setFails(t, &x, -1, api.ErrArg)
	setFails(t, &x, 1, api.ErrFull)
	has(t, &x, handle(1, 0), false)
	cancel(t, &x, handle(1, 0), false)
	fire(t, &x, api.MaxTick)
	holds(t, &x, 0, 0)
}

// R3: what fired shares no memory with the timers or with what fires later, spare room too.
func TestAnswersApart(t *testing.T) {
	x := newTimers(t, 9)
	for i := range 9 {
		set(t, x, i/3, i, handle(1, i))
	}
	one := x.Fire(0)
	one = one[:cap(one)]
	for i := range one {
		one[i] = -1
	}
	for i := range 3 {
		set(t, x, 2, 20+i, handle(2, i))
	}
	two := x.Fire(1)
	two = append(two, 7, 7, 7, 7)
	fire(t, x, 2, 6, 7, 8, 20, 21, 22)
	if !slices.Equal(two, []int{3, 4, 5, 7, 7, 7, 7}) {
		t.Errorf("a later Fire reached an answer: %v", two)
	}
	for _, v := range one {
		if v != -1 {
			t.Errorf("a later Fire reached an answer: %v", one)
		}
	}
}

// R6: two heaps of timers do not hang together.
func TestTimersApart(t *testing.T) {
	a, b := newTimers(t, 2), newTimers(t, 2)
	set(t, a, 5, 1, handle(1, 0))
	set(t, b, 6, 2, handle(1, 0))
	fire(t, a, 9, 1)
	holds(t, a, 0, 0)
	holds(t, b, 1, 6)
	has(t, b, handle(1, 0), true)
}

// lying is a timer of the model.
type lying struct{ at, key, handle int }

// model is timers in the plainest way: a list by when they were set, and a count for each slot.
type model struct {
	most        int
	all         []lying
	generations []int
}

func (m *model) set(at, key int) (int, api.Errno) {
	if len(m.all) == m.most {
		return 0, api.ErrFull
	}
	slot := 0
	for slices.ContainsFunc(m.all, func(l lying) bool { return l.handle%4096 == slot }) {
		slot++
	}
	m.generations[slot]++
	h := handle(m.generations[slot], slot)
	m.all = append(m.all, lying{at, key, h})
	return h, api.OK
}

func (m *model) has(h int) bool {
	return slices.ContainsFunc(m.all, func(l lying) bool { return l.handle == h })
}

func (m *model) cancel(h int) bool {
	ok := m.has(h)
	m.all = slices.DeleteFunc(m.all, func(l lying) bool { return l.handle == h })
	return ok
}

func (m *model) ordered() []lying {
	l := slices.Clone(m.all)
	slices.SortStableFunc(l, func(a, b lying) int { return cmp.Compare(a.at, b.at) })
	return l
}

func (m *model) fire(now int) []int {
	var keys []int
	for _, l := range m.ordered() {
		if l.at <= now {
			keys = append(keys, l.key)
		}
	}
	m.all = slices.DeleteFunc(m.all, func(l lying) bool { return l.at <= now })
	return keys
}

// 3.1 to 3.5: long rows of calls tell the same as the model.
func TestAgainstModel(t *testing.T) {
	r := rand.New(rand.NewSource(3))
	for range 200 {
		most := 1 + r.Intn(40)
		spread := 1 + r.Intn(30)
		x, m := newTimers(t, most), &model{most: most, generations: make([]int, most)}
		var handles []int
		for step := range 400 {
			now := step / 10
			switch r.Intn(8) {
			default:
				at := now + r.Intn(spread)
				h, e := x.Set(at, step)
				if g, f := m.set(at, step); h != g || e != f {
					t.Fatalf("Set: %d, %v; want %d, %v", h, e, g, f)
				}
				if e == api.OK {
					handles = append(handles, h)
				}
			case 0, 1, 2:
				h := r.Intn(3 * api.MaxTimers)
				if len(handles) > 0 {
					h = handles[max(0, len(handles)-1-r.Intn(2*most))]
				}
				if a, b := x.Has(h), m.has(h); a != b {
					t.Fatalf("Has(%d): %v", h, a)
				}
				if a, b := x.Cancel(h), m.cancel(h); a != b {
					t.Fatalf("Cancel(%d): %v", h, a)
				}
			case 3:
				if a, b := x.Fire(now), m.fire(now); !slices.Equal(a, b) {
					t.Fatalf("Fire(%d): %v; want %v", now, a, b)
				}
			}
			sameAsModel(t, x, m)
		}
		if a, b := x.Fire(api.MaxTick), m.fire(api.MaxTick); !slices.Equal(a, b) || x.Len() != 0 {
			t.Fatalf("Fire: %v; want %v", a, b)
		}
	}
}

func sameAsModel(t *testing.T, x *timers.Timers, m *model) {
	t.Helper()
	first := 0
	if l := m.ordered(); len(l) > 0 {
		first = l[0].at
	}
	holds(t, x, len(m.all), first)
	if t.Failed() {
		t.FailNow()
	}
}
