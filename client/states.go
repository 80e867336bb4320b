package client

import (
	"headrace/api"
	"headrace/body"
	"headrace/framing"
	"headrace/head"
)

// The statuses of what is wrong.
const (
	badRequest = 400
	largeBody  = 413
	largeHead  = 431
)

// listen makes it one that reads a head, of which nothing was read. The bound of a head is looked at by its parser.
func (c *Client) listen(most bounds) api.Errno {
	p, e := head.New(true, most.head)
	*c = Client{most: most, parser: p}
	c.state = c.readHead
	return e
}

// readHead reads on in a head, and tells how many bytes it read.
func (c *Client) readHead(b []byte) int {
	n, whole, e := c.parser.Feed(b)
	switch {
	case e == api.ErrLarge:
		c.refuse(largeHead)
	case e != api.OK:
		c.refuse(badRequest)
	case whole:
		c.beginBody()
	}
	return n
}

// beginBody goes on behind a whole head.
func (c *Client) beginBody() {
	f, e := framing.Request(c.parser.Head())
	if e != api.OK {
		c.refuse(badRequest)
		return
	}
	c.reader, e = body.New(f, c.most.body)
	c.state = c.readBody
	c.look(e)
}

// readBody reads on in a body, and tells how many bytes it read.
func (c *Client) readBody(b []byte) int {
	came, n, _, e := c.reader.Feed(b)
	c.bytes = append(c.bytes, came...)
	c.look(e)
	return n
}

// look ends a request whose body is wrong, or whole; a body without bytes is so at once.
func (c *Client) look(e api.Errno) {
	switch {
	case e == api.ErrLong:
		c.refuse(largeBody)
	case e != api.OK:
		c.refuse(badRequest)
	case c.reader.Whole():
		c.wait()
	}
}

// wait holds a whole request until it is answered.
func (c *Client) wait() {
	c.state, c.reader = nil, nil
	c.begun, c.waits = false, true
}

// refuse shuts it, since something is wrong.
func (c *Client) refuse(status int) { *c = Client{wrong: status} }

// leave shuts it, and nothing is wrong.
func (c *Client) leave() { *c = Client{} }
