// Package chain is layer 2: see shared/doc/02-chain.md.
package chain

import (
	"bytes"

	"headrace/api"
)

// Chain is a bounded row of bytes.
//
// The bytes lie in a ring, from start on and round its end. The ring grows with what is put, never over the bound, since many chains hold far less than they may.
type Chain struct {
	bound, high, low int
	ring             []byte
	start, size      int
	stopped          bool
}

// New is a chain with a bound and two marks.
func New(bound, high, low int) (*Chain, api.Errno) {
	if bound < 1 || bound > api.MaxBytes || high < 1 || high > bound || low < 0 || low >= high {
		return nil, api.ErrArg
	}
	return &Chain{bound: bound, high: high, low: low}, api.OK
}

// Put puts bytes behind the others: how many.
func (c *Chain) Put(b []byte) int {
	n := min(len(b), c.Room())
	if n == 0 {
		return 0 // a chain that is at its high mark is stopped already
	}
	c.grow(c.size + n)
	first, second := c.parts(c.size, n)
	copy(first, b)
	copy(second, b[len(first):])
	c.size += n
	if c.size >= c.high {
		c.stopped = true
	}
	return n
}

// Take takes the first bytes.
func (c *Chain) Take(n int) []byte {
	b := c.Peek(n)
	c.Drop(len(b))
	return b
}

// Peek are the first bytes.
func (c *Chain) Peek(n int) []byte {
	n = c.clip(n)
	if n == 0 {
		return nil
	}
	b := make([]byte, n)
	c.copyTo(b)
	return b
}

// Drop takes the first bytes away: how many.
func (c *Chain) Drop(n int) int {
	n = c.clip(n)
	if n == 0 {
		return 0 // a chain that is at its low mark is not stopped any more
	}
	c.start = c.place(n)
	c.size -= n
	if c.size <= c.low {
		c.stopped = false
	}
	return n
}

// Find is the place of the first byte of a kind; -1: there is none.
func (c *Chain) Find(x byte) int {
	if c.Len() == 0 {
		return -1
	}
	first, second := c.parts(0, c.size)
	if i := bytes.IndexByte(first, x); i >= 0 {
		return i
	}
	if i := bytes.IndexByte(second, x); i >= 0 {
		return len(first) + i
	}
	return -1
}

// Len is how many bytes there are.
func (c *Chain) Len() int {
	if c == nil {
		return 0
	}
	return c.size
}

// Room is how many bytes there is room for.
func (c *Chain) Room() int {
	if c == nil {
		return 0
	}
	return c.bound - c.size
}

// Stopped tells whether it asks to be left in peace.
func (c *Chain) Stopped() bool { return c != nil && c.stopped }

// clip is how many bytes there are of the n that are asked for.
func (c *Chain) clip(n int) int { return max(min(n, c.Len()), 0) }

// place is where in the ring the byte lies that i others are ahead of. The ring must not be empty.
func (c *Chain) place(i int) int { return (c.start + i) % len(c.ring) }

// parts are n places of the ring, behind the chain's first i ones; the second part is what goes round the ring's end.
func (c *Chain) parts(i, n int) (first, second []byte) {
	from := c.place(i)
	straight := min(n, len(c.ring)-from)
	return c.ring[from : from+straight], c.ring[:n-straight]
}

// copyTo fills b with the chain's first bytes; there must be as many.
func (c *Chain) copyTo(b []byte) {
	first, second := c.parts(0, len(b))
	copy(b, first)
	copy(b[len(first):], second)
}

// grow makes the ring hold at least n bytes. It doubles, so that many small puts do not copy all bytes each time.
func (c *Chain) grow(n int) {
	if n <= len(c.ring) {
		return
	}
	ring := make([]byte, min(max(n, 2*len(c.ring)), c.bound))
	if c.size > 0 {
		c.copyTo(ring[:c.size])
	}
	c.ring, c.start = ring, 0
}
