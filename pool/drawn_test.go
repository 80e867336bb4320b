package pool_test

import (
	"math/rand"
	"slices"
	"testing"

	"headrace/api"
	"headrace/pool"
)

// Kinds of calls.
const (
	callAsk = iota
	callUp
	callGone
	callKeep
	callEnd
	callDrop
	callExpire
)

// drawn are the kinds as often as they are to be drawn: most connections are to come up, and to rest.
var drawn = []int{callAsk, callUp, callUp, callUp, callUp, callGone, callKeep, callKeep, callKeep, callKeep, callEnd, callDrop, callExpire}

// call is one of a kind; arg is who, or a connection.
type call struct{ kind, now, arg int }

// answer is all that a call may tell.
type answer struct {
	act  pool.Act
	who  int
	acts []pool.Act
	e    api.Errno
}

func (a answer) same(b answer) bool {
	return a.act == b.act && a.who == b.who && slices.Equal(a.acts, b.acts) && a.e == b.e
}

func perform(p *pool.Pool, c call) answer {
	var a answer
	switch c.kind {
	case callAsk:
		a.act, a.e = p.Ask(c.now, c.arg)
	case callUp:
		a.who, a.e = p.Up(c.arg)
	case callGone:
		a.who, a.acts, a.e = p.Gone(c.now, c.arg)
	case callKeep, callEnd:
		a.acts, a.e = p.Done(c.now, c.arg, c.kind == callKeep)
	case callDrop:
		a.acts, a.e = p.Drop(c.now, c.arg)
	case callExpire:
		a.acts, a.e = p.Expire(c.now)
	}
	return a
}

// numbers are a pool's.
type numbers struct{ cap, pend, idle, life int }

func drawNumbers(r *rand.Rand) numbers {
	x := numbers{1 + r.Intn(4), r.Intn(5), 1 + r.Intn(8), 1 + r.Intn(30)}
	switch r.Intn(10) {
	case 0:
		x.cap = 64
	case 1:
		x.pend = 64
	case 2:
		x.idle = 1000000 - r.Intn(3)
	case 3:
		x.life = 1000000 - r.Intn(3)
	}
	return x
}

// drawer draws calls at moments that mostly go on; where back is true they go back now and then.
type drawer struct {
	*rand.Rand
	now  int
	back bool
	busy int // of ten calls so many ask in any case
}

func newDrawer(r *rand.Rand) *drawer {
	d := &drawer{Rand: r, now: r.Intn(10), back: r.Intn(2) == 0, busy: r.Intn(4)}
	switch r.Intn(6) {
	case 0:
		d.now = api.MaxTick - r.Intn(40)
	case 1:
		d.now = 1 << 61
	}
	return d
}

// call draws one, of which the connections and who are mostly among those that there are, since others tell little.
func (d *drawer) call(conns, who []int, x numbers) call {
	switch d.Intn(100) {
	case 0:
		d.now += d.Intn(1000002)
	case 1, 2, 3, 4, 5, 6, 7, 8, 9, 10, 11, 12, 13, 14, 15, 16:
		d.now += d.Intn(4)
	}
	d.now = min(d.now, api.MaxTick)
	c := call{drawn[d.Intn(len(drawn))], d.now, 0}
	if d.back && d.Intn(6) == 0 {
		c.now = max(0, d.now-d.Intn(15))
	}
	if d.Intn(10) < d.busy {
		c.kind = callAsk
	}
	most := 2 * (x.cap + x.pend)
	switch c.kind {
	case callAsk:
		c.arg = d.Intn(most)
	case callDrop:
		c.arg = d.among(who, most)
	default:
		c.arg = d.among(conns, 300)
	}
	return c
}

// among draws one of a list, and now and then any below a bound, or one below 0.
func (d *drawer) among(l []int, bound int) int {
	if len(l) == 0 || d.Intn(8) == 0 {
		return d.Intn(bound+1) - 1
	}
	return l[d.Intn(len(l))]
}

// Kinds of what happens to a connection.
const (
	toBorn = iota
	toUp
	toRest
	toUsed
	toGone
)

// mark is something that happened to a connection, at a moment, for somebody.
type mark struct{ kind, conn, now, who int }

// model is a pool by the chapter's words, of all that ever happened to its connections.
type model struct {
	numbers
	marks   []mark
	born    []int // by their numbers
	waiting []int
}

func later(t, d int) int {
	if d > api.MaxTick-t {
		return api.MaxTick
	}
	return t + d
}

// last is what happened to a connection last; toGone, if there was never one.
func (m *model) last(conn int) mark {
	for _, x := range slices.Backward(m.marks) {
		if x.conn == conn {
			return x
		}
	}
	return mark{kind: toGone}
}

func (m *model) note(kind, conn, now, who int) {
	m.marks = append(m.marks, mark{kind, conn, now, who})
}

func (m *model) conns() []int {
	var l []int
	for conn := range m.born {
		if m.last(conn).kind != toGone {
			l = append(l, conn)
		}
	}
	return l
}

func (m *model) resting() []int {
	return slices.DeleteFunc(m.conns(), func(conn int) bool { return m.last(conn).kind != toRest })
}

func (m *model) end(conn int) int {
	return min(later(m.last(conn).now, m.idle), later(m.born[conn], m.life))
}

// has is somebody's connection.
func (m *model) has(who int) (int, bool) {
	for _, conn := range m.conns() {
		if x := m.last(conn); x.kind != toRest && x.who == who {
			return conn, true
		}
	}
	return 0, false
}

// who are those who have a connection or wait.
func (m *model) who() []int {
	l := slices.Clone(m.waiting)
	for _, conn := range m.conns() {
		if x := m.last(conn); x.kind != toRest {
			l = append(l, x.who)
		}
	}
	return l
}

func (m *model) give(now, who int) (pool.Act, bool) {
	resting := m.resting()
	for _, x := range slices.Backward(m.marks) {
		if x.kind == toRest && slices.Contains(resting, x.conn) && now < m.end(x.conn) {
			m.note(toUsed, x.conn, now, who)
			return reuse(x.conn, who), true
		}
	}
	if len(m.conns()) < m.cap {
		m.note(toBorn, len(m.born), now, who)
		m.born = append(m.born, now)
		return open(len(m.born)-1, who), true
	}
	return pool.Act{}, false
}

func (m *model) serve(now int, l ...pool.Act) []pool.Act {
	for len(m.waiting) > 0 {
		act, ok := m.give(now, m.waiting[0])
		if !ok {
			break
		}
		m.waiting = slices.Delete(m.waiting, 0, 1)
		l = append(l, act)
	}
	return l
}

func (m *model) ask(now, who int) answer {
	if _, ok := m.has(who); ok || slices.Contains(m.waiting, who) {
		return answer{e: api.ErrState}
	}
	if act, ok := m.give(now, who); ok {
		return answer{act: act}
	}
	if len(m.waiting) < m.pend {
		m.waiting = append(m.waiting, who)
		return answer{act: wait(who)}
	}
	return answer{act: full(who)}
}

func (m *model) drop(now, who int) answer {
	if i := slices.Index(m.waiting, who); i >= 0 {
		m.waiting = slices.Delete(m.waiting, i, i+1)
		return answer{acts: m.serve(now)}
	}
	conn, ok := m.has(who)
	if !ok {
		return answer{e: api.ErrNone}
	}
	m.note(toGone, conn, now, -1)
	return answer{acts: m.serve(now, shut(conn, who))}
}

func (m *model) expire(now int) answer {
	var l []pool.Act
	for _, conn := range m.resting() {
		if now >= m.end(conn) {
			m.note(toGone, conn, now, -1)
			l = append(l, shut(conn, -1))
		}
	}
	return answer{acts: m.serve(now, l...)}
}

// ofConn is what a call of a connection tells.
func (m *model) ofConn(c call) answer {
	x := m.last(c.arg)
	works := x.kind == toUp || x.kind == toUsed
	switch {
	case c.kind == callUp && x.kind == toBorn:
		m.note(toUp, c.arg, 0, x.who)
		return answer{who: x.who}
	case c.kind == callGone && x.kind != toGone:
		m.note(toGone, c.arg, c.now, -1)
		return answer{who: x.who, acts: m.serve(c.now)}
	case c.kind == callKeep && works && c.now < later(m.born[c.arg], m.life):
		m.note(toRest, c.arg, c.now, -1)
		return answer{acts: m.serve(c.now)}
	case (c.kind == callKeep || c.kind == callEnd) && works:
		m.note(toGone, c.arg, c.now, -1)
		return answer{acts: m.serve(c.now, shut(c.arg, -1))}
	}
	return answer{e: api.ErrNone}
}

func (m *model) perform(c call) answer {
	switch c.kind {
	case callAsk:
		return m.ask(c.now, c.arg)
	case callDrop:
		return m.drop(c.now, c.arg)
	case callExpire:
		return m.expire(c.now)
	}
	return m.ofConn(c)
}

// agree looks at what may be asked without a moment.
func (m *model) agree(t *testing.T, p *pool.Pool) {
	t.Helper()
	size(t, p, len(m.conns()), len(m.resting()), len(m.waiting))
	var l []int
	for _, conn := range m.resting() {
		l = append(l, m.end(conn))
	}
	if len(l) == 0 {
		noNext(t, p)
		return
	}
	next(t, p, slices.Min(l))
}

// 22.1 to 22.5, R4, R6: over many drawn sequences of calls all is as the words tell, also where wrong calls stand between them.
func TestAgainstModel(t *testing.T) {
	r := rand.New(rand.NewSource(22))
	var told [6]int
	for range 2000 {
		x := drawNumbers(r)
		m, p, d := &model{numbers: x}, newPool(t, x.cap, x.pend, x.idle, x.life), newDrawer(r)
		var calls []call
		for range 100 {
			c := d.call(m.conns(), m.who(), x)
			calls = append(calls, c)
			want := m.perform(c)
			if got := perform(p, c); !got.same(want) {
				t.Errorf("%+v: %+v; want %+v", c, got, want)
			}
			m.agree(t, p)
			wrongNow(t, p, m, c.now)
			for _, a := range append(want.acts, want.act) {
				told[a.Kind]++
			}
		}
		if t.Failed() {
			t.Fatalf("%+v: %+v", x, calls)
		}
	}
	if slices.Min(told[1:]) < 2000 {
		t.Errorf("%d acts are too few to tell anything", told)
	}
}

// wrongNow makes calls that must not go well in a model's state.
func wrongNow(t *testing.T, p *pool.Pool, m *model, now int) {
	t.Helper()
	for _, who := range m.who() {
		noAsk(t, p, now, who, api.ErrState)
		noAsk(t, p, -1, who, api.ErrArg)
		noDrop(t, p, api.MaxTick+1, who, api.ErrArg)
	}
	noDrop(t, p, now, -1, api.ErrNone)
	for conn := range len(m.born) + 1 {
		kind := m.last(conn).kind
		if kind != toBorn {
			noUp(t, p, conn)
		}
		if kind != toUp && kind != toUsed {
			noDone(t, p, now, conn, api.ErrNone)
		}
		if kind == toGone {
			noGone(t, p, now, conn, api.ErrNone)
		}
		noGone(t, p, -1, conn, api.ErrArg)
		noDone(t, p, api.MaxTick+1, conn, api.ErrArg)
	}
}

// ledger is what a pool's acts alone tell of whose its connections are.
type ledger struct {
	numbers
	whose       map[int]int // by connection; -1: it rests
	born, since map[int]int
	waiting     map[int]bool
}

// take books an act at a moment: false, if by it a connection would be another one's, or somebody would have two.
func (g *ledger) take(a pool.Act, now int) bool {
	whose, there := g.whose[a.Conn]
	for _, who := range g.whose {
		if (a.Kind == pool.Open || a.Kind == pool.Reuse || a.Kind == pool.Wait) && who == a.Who {
			return false
		}
	}
	switch a.Kind {
	case pool.Open:
		g.whose[a.Conn], g.born[a.Conn] = a.Who, now
		delete(g.waiting, a.Who)
		return !there
	case pool.Reuse:
		g.whose[a.Conn] = a.Who
		delete(g.waiting, a.Who)
		return there && whose == -1
	case pool.Wait:
		again := g.waiting[a.Who]
		g.waiting[a.Who] = true
		return !again
	case pool.Close:
		delete(g.whose, a.Conn)
		return there
	}
	return true
}

// tell books what a call did by itself, ahead of its acts.
func (g *ledger) tell(c call, a answer) {
	switch {
	case a.e != api.OK:
	case c.kind == callGone:
		delete(g.whose, c.arg)
	case c.kind == callKeep && !slices.Contains(a.acts, shut(c.arg, -1)):
		g.whose[c.arg], g.since[c.arg] = -1, c.now
	case c.kind == callEnd:
		g.whose[c.arg] = -1
	case c.kind == callDrop:
		delete(g.waiting, c.arg)
	}
}

// served tells whether nobody waits who could be served.
func (g *ledger) served(now int) bool {
	if len(g.waiting) == 0 {
		return true
	}
	for conn, who := range g.whose {
		if who == -1 && now < later(g.since[conn], g.idle) && now < later(g.born[conn], g.life) {
			return false
		}
	}
	return len(g.whose) >= g.cap
}

func (g *ledger) list() ([]int, []int) {
	var conns, who []int
	for conn, x := range g.whose {
		conns = append(conns, conn)
		if x >= 0 {
			who = append(who, x)
		}
	}
	for x := range g.waiting {
		who = append(who, x)
	}
	slices.Sort(conns)
	slices.Sort(who)
	return conns, who
}

// 22.6, 22.7: over many drawn sequences of calls there are never more than cap and pend, no connection is two's, and nobody waits who could be served.
func TestCapsAndAlone(t *testing.T) {
	r := rand.New(rand.NewSource(226))
	waited, atCap, atPend := 0, 0, 0
	for range 4000 {
		x := drawNumbers(r)
		g := &ledger{x, map[int]int{}, map[int]int{}, map[int]int{}, map[int]bool{}}
		p, d := newPool(t, x.cap, x.pend, x.idle, x.life), newDrawer(r)
		var calls []call
		for range 150 {
			conns, who := g.list()
			c := d.call(conns, who, x)
			calls = append(calls, c)
			a := perform(p, c)
			g.tell(c, a)
			for _, act := range append(a.acts, a.act) {
				if !g.take(act, c.now) {
					t.Fatalf("%+v: %v in the last of %+v", x, act, calls)
				}
			}
			n, _, w := p.Size()
			if n > x.cap || w > x.pend || n != len(g.whose) || w != len(g.waiting) {
				t.Fatalf("%+v: %d, %d behind the last of %+v; by the acts %v, %v", x, n, w, calls, g.whose, g.waiting)
			}
			// Neither Ask nor Up serves who waits, but where time goes on none is left to be.
			if serves := c.kind != callAsk && c.kind != callUp && a.e == api.OK; (serves || !d.back) && !g.served(c.now) {
				t.Fatalf("%+v: %v wait behind the last of %+v", x, g.waiting, calls)
			}
			waited += min(w, 1)
			atCap += n / x.cap
			atPend += w / max(x.pend, 1)
		}
	}
	if min(waited, atCap, atPend) < 10000 {
		t.Errorf("%d, %d, %d times are too few to tell anything", waited, atCap, atPend)
	}
}
