package proxy_test

import (
	"bytes"
	"fmt"
	"math/rand"
	"reflect"
	"slices"
	"testing"

	"headrace/api"
	"headrace/proxy"
	"headrace/trace"
)

// drawnWorld is one that a number stands for, behind so many events.
func drawnWorld(t *testing.T, seed int64) *world {
	r := rand.New(rand.NewSource(seed))
	w := newWorld(t, r, drawConfig(r))
	w.wild = seed%3 == 0
	for range 50 + r.Intn(300) {
		w.play(w.event())
	}
	return w
}

// 27.2 to 27.6: over many drawn worlds in which hosts answer, answer in pieces, are cut off, refuse and are silent.
func TestDrawnWorlds(t *testing.T) {
	var kinds [15]int
	told := map[int]int{}
	for seed := range int64(2500) {
		w := drawnWorld(t, seed)
		if rule, step, e := trace.Check(w.c, w.steps); rule != 0 || e != api.OK {
			t.Fatalf("seed %d: rule %d, step %d, %v: %+v", seed, rule, step, e, w.steps[step])
		}
		for _, g := range w.guests {
			w.looksBack(g)
		}
		for _, a := range w.acts(func(api.Act) bool { return true }) {
			kinds[a.Kind]++
			if a.Kind == api.AcAnswer {
				told[a.Status*10+a.N]++
			}
		}
		if t.Failed() {
			t.Fatalf("seed %d", seed)
		}
	}
	for _, status := range []int{4000, 4040, 4080, 4130, 4290, 4310, 5020, 5030, 5040, 2001, 2041, 3041, 4041, 5001, 5021, 5031, 5041, 5991} {
		if told[status] < 50 {
			t.Errorf("%d answers %d are too few to tell anything", told[status], status)
		}
	}
	if slices.Min(kinds[1:]) < 100 {
		t.Errorf("%v acts are too few to tell anything", kinds)
	}
}

// 27.2: what is admitted, and how often each request is tried, by the trace's counts.
func TestDrawnRates(t *testing.T) {
	for seed := range int64(150) {
		w := drawnWorld(t, 10000+seed)
		for n, r := range w.c.Routes {
			var moments []int
			for _, a := range w.acts(func(a api.Act) bool { return a.Kind == api.AcAdmit && a.N == n }) {
				moments = append(moments, a.At)
			}
			for _, from := range moments {
				for _, to := range moments {
					if count := trace.Admitted(w.steps, n, from, to); count > r.Burst+r.Rate*(to-from)/r.Per+1 && from <= to {
						t.Fatalf("seed %d: %d from %d to %d, by %+v", seed, count, from, to, r)
					}
				}
			}
		}
		for _, a := range w.acts(func(a api.Act) bool { return a.Kind == api.AcParsed }) {
			most := 0
			if a.N >= 0 {
				most = w.c.Routes[a.N].Retries + w.c.Routes[a.N].Hedges + 1
			}
			if n := trace.Tries(w.steps, a.Req); n > most {
				t.Fatalf("seed %d: request %d is tried %d times", seed, a.Req, n)
			}
		}
	}
}

// wrongEvents are some that the proxy refuses.
func wrongEvents() []api.Event {
	return []api.Event{{}, {Kind: 11}, tick(-1), tick(proxy.MaxSkip + 1), draw(-1), draw(1 << 32), open(-1), came(-1, "x"), ends(-1), reset(-1), {Kind: api.EvUp, Conn: -1}, {Kind: api.EvRefused, Conn: -1}, room(-1, 1), room(1, -1), {Kind: api.EvBytes, Conn: 1, Bytes: make([]byte, api.MaxBytes+1)}}
}

// 27.7: two proxies of the same events do the same. R3: though of one all that is handed in and told is spoilt behind each call; R4: and it is told events that it refuses.
func TestSideBySide(t *testing.T) {
	for seed := range int64(300) {
		w := drawnWorld(t, 20000+seed)
		given := drawConfig(rand.New(rand.NewSource(20000 + seed)))
		p, e := proxy.New(given)
		if e != api.OK {
			t.Fatal(e)
		}
		spoil(&given)
		wrong := wrongEvents()
		for i, s := range w.steps {
			if acts, err := p.Step(wrong[i%len(wrong)]); len(acts) != 0 || err != api.ErrArg {
				t.Fatalf("%v: %v, %v", wrong[i%len(wrong)], acts, err)
			}
			e := s.E
			e.Bytes = bytes.Clone(e.Bytes)
			acts, err := p.Step(e)
			if err != api.OK || len(acts) != len(s.Acts) || len(acts) > 0 && !reflect.DeepEqual(acts, s.Acts) {
				t.Fatalf("seed %d, step %d: %v, %v; want %v", seed, i, acts, err, s.Acts)
			}
			if !bytes.Equal(e.Bytes, s.E.Bytes) {
				t.Fatalf("what is handed in is changed: %q; it was %q", e.Bytes, s.E.Bytes)
			}
			clear(e.Bytes)
			for _, a := range acts {
				clear(a.Bytes[:cap(a.Bytes)])
			}
			clear(acts[:cap(acts)])
		}
		if fmt.Sprint(p.Held()) != fmt.Sprint(w.p.Held()) || p.Now() != w.p.Now() {
			t.Fatalf("seed %d: they hold other things", seed)
		}
	}
}

// spoil changes all that a configuration's lists hold.
func spoil(c *api.Config) {
	for i := range c.Routes {
		clear(c.Routes[i].Hosts)
		clear(c.Routes[i].Methods)
	}
	clear(c.Routes)
	clear(c.Hosts)
}

// P3: the same bytes in other pieces: the same is read, asked for, and told, as long as clients have room. The chunks of an answer are other ones.
func TestDrawnPieces(t *testing.T) {
	parted := 0
	for seed := range int64(600) {
		r := rand.New(rand.NewSource(30000 + seed))
		c := drawConfig(r)
		c.MaxOut = api.MaxBytes
		w := newWorld(t, r, c)
		for range 50 + r.Intn(200) {
			e := w.event()
			// Bytes behind a response are told from a next one's by when they come.
			if x := w.wire(e.Conn); x != nil && e.Kind == api.EvBytes && x.sent+len(e.Bytes) > len(x.reply.text) {
				continue
			}
			w.play(e)
			if e.Kind == api.EvOpen {
				w.play(room(e.Conn, api.MaxBytes))
			}
		}
		p, _ := proxy.New(c)
		var acts []api.Act
		for _, s := range w.steps {
			for _, e := range pieces(r, s.E) {
				l, err := p.Step(e)
				if err != api.OK {
					t.Fatal(err)
				}
				acts = append(acts, l...)
			}
		}
		same(t, w, acts)
		for _, s := range w.steps {
			parted += len(s.E.Bytes)
		}
		if t.Failed() {
			t.Fatalf("seed %d", seed)
		}
	}
	if parted < 1000000 {
		t.Errorf("%d bytes are too few to tell anything", parted)
	}
}

// pieces are an event whose bytes are parted as drawn.
func pieces(r *rand.Rand, e api.Event) []api.Event {
	if e.Kind != api.EvBytes || len(e.Bytes) == 0 {
		return []api.Event{e}
	}
	var l []api.Event
	most := 1 + r.Intn(len(e.Bytes))
	for rest := e.Bytes; len(rest) > 0; {
		n := 1 + r.Intn(min(most, len(rest)))
		l = append(l, api.Event{Kind: e.Kind, Conn: e.Conn, Bytes: rest[:n]})
		rest = rest[n:]
	}
	return l
}

// same holds acts against those of a world: all the same but what is written to clients, of which the same is read.
func same(t *testing.T, w *world, acts []api.Act) {
	t.Helper()
	ofHosts := func(a api.Act) bool { return a.Kind != api.AcWrite || a.Conn >= base }
	want, got := w.acts(ofHosts), among(acts, ofHosts)
	if len(want) != len(got) {
		t.Errorf("%d acts; want %d", len(got), len(want))
		return
	}
	for i := range want {
		if !reflect.DeepEqual(got[i], want[i]) {
			t.Errorf("act %d: %+v; want %+v", i, got[i], want[i])
			return
		}
	}
	for _, g := range w.guests {
		x := *g
		x.got = ""
		for _, a := range acts {
			if a.Kind == api.AcWrite && a.Conn == g.number {
				x.got += string(a.Bytes)
			}
		}
		if l, want := w.read(&x), w.read(g); !reflect.DeepEqual(l, want) {
			t.Errorf("client %d: %v; want %v", g.number, l, want)
		}
	}
}

// 27.8: one client, one right request, one host that answers a right response whole: that is what the client gets.
func TestDrawnPlain(t *testing.T) {
	for seed := range int64(1500) {
		r := rand.New(rand.NewSource(40000 + seed))
		c := plain()
		c.MaxOut = 1 + r.Intn(3000)
		w := newWorld(t, r, c)
		w.calm = true
		w.play(open(1))
		g := w.guests[0]
		g.sends = []asked{w.drawAsked()}
		for g.queue = g.sends[0].text; g.queue != ""; {
			w.play(api.Event{Kind: api.EvBytes, Conn: 1, Bytes: w.front(g.queue)})
		}
		if len(w.wires) != 1 {
			t.Fatalf("seed %d: %q is not sent", seed, g.sends[0].text)
		}
		x := w.wires[0]
		for !x.up || x.queue != "" || x.last != 0 {
			w.play(w.wireEvent(x))
			w.play(room(1, r.Intn(2000)))
		}
		w.play(room(1, api.MaxBytes))
		l := w.read(g)
		if len(l) != 1 || !l[0].whole && !(l[0].byEnd && g.gone) || l[0].body != x.reply.body || g.told[0].N != 1 {
			t.Fatalf("seed %d: %v; the host said %+v", seed, l, x.reply)
		}
		w.looksBack(g)
		if _, b := w.p.Held(); b != 0 {
			t.Fatalf("seed %d: %d bytes are held", seed, b)
		}
	}
}
