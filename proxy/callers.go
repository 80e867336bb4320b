package proxy

import (
	"bytes"
	"slices"

	"headrace/api"
	"headrace/client"
	"headrace/write"
)

// caller is a client that is there.
type caller struct {
	number  int
	reader  *client.Client
	in      []byte // waits to be read
	out     []byte // waits to be written
	room    int
	ended   bool
	closing bool // it is to be closed
	begun   bool // a request has
	since   int  // when it has
	request *request
}

func newCaller(number int, c api.Config) *caller {
	x := &caller{number: number}
	x.reader, _ = client.New(c.MaxHead, c.MaxBody)
	return x
}

// arrive takes bytes that came. From one that is to be closed none would be read.
func (c *caller) arrive(b []byte) {
	if !c.ended && !c.closing {
		c.in = append(c.in, b...)
	}
}

// behind are the bytes behind the first n; where there are none their memory is free.
func behind(b []byte, n int) []byte {
	if n == len(b) {
		return nil
	}
	return b[n:]
}

// shut lets it be closed as soon as all is written.
func (c *caller) shut() { c.closing, c.begun, c.in = true, false, nil }

// read reads on, and tells whether it did something.
func (p *Proxy) read(c *caller) bool {
	if c.request != nil || c.closing || len(c.out) >= p.c.MaxOut || len(c.in) == 0 && !c.ended {
		return false
	}
	n, whole := c.reader.Read(c.in)
	c.in = behind(c.in, n)
	if whole {
		p.start(c)
	}
	// A request that is whole is not wrong, nor does its client shut ahead of the answer.
	if len(c.in) == 0 && c.ended {
		c.reader.End()
	}
	if status := c.reader.Wrong(); status != 0 {
		p.turnAway(c, status)
	}
	if c.reader.Shut() {
		c.shut()
	}
	p.watch(c)
	return true
}

// watch keeps since when a request has begun.
func (p *Proxy) watch(c *caller) {
	begun := c.reader.Begun()
	if begun && !c.begun {
		c.since = p.now
	}
	c.begun = begun
}

// turnAway answers no request of a client.
func (p *Proxy) turnAway(c *caller, status int) {
	p.act(api.Act{Kind: api.AcAnswer, Conn: c.number, Req: none, Status: status})
	c.local(status, write.Client{Method: "GET", Minor: 1})
	c.shut()
}

// local lets an own answer wait to be written.
func (c *caller) local(status int, to write.Client) {
	text, _ := write.Local(status, to)
	c.out = append(c.out, text...)
}

// flush writes what there is room for, and closes what is to be closed; it tells whether it did something.
func (p *Proxy) flush(c *caller) bool {
	n := min(len(c.out), c.room)
	if n > 0 {
		p.act(api.Act{Kind: api.AcWrite, Conn: c.number, Bytes: bytes.Clone(c.out[:n])})
		c.out = behind(c.out, n)
		c.room -= n
	}
	if len(c.out) > 0 || !c.closing && !(p.draining && c.rests()) {
		return n > 0
	}
	p.close(c.number)
	p.leave(c)
	return true
}

// rests tells whether nothing of a request is there.
func (c *caller) rests() bool { return c.request == nil && !c.begun && len(c.in) == 0 }

// leave lets a client be there no longer.
func (p *Proxy) leave(c *caller) {
	if r := c.request; r != nil {
		p.abandon(r)
	}
	p.opened[c.number] = nil
	p.callers = slices.DeleteFunc(p.callers, func(x *caller) bool { return x == c })
}

// close closes a connection.
func (p *Proxy) close(number int) { p.act(api.Act{Kind: api.AcClose, Conn: number}) }
