// Package tick is layer 1: see shared/doc/01-tick.md.
package tick

import "headrace/api"

// Add is a moment later by a span.
func Add(t, d int) (int, api.Errno) {
	if !isMoment(t) || d < 0 {
		return 0, api.ErrArg
	}
	return later(t, d), api.OK
}

// Until is how many ticks a moment is behind another one.
func Until(a, b int) (int, api.Errno) {
	if !isMoment(a) || !isMoment(b) {
		return 0, api.ErrArg
	}
	return max(b-a, 0), api.OK
}

// First is the least of all moments in a list.
func First(l []int) (int, bool) {
	least, found := 0, false
	for _, t := range l {
		if isMoment(t) && (!found || t < least) {
			least, found = t, true
		}
	}
	return least, found
}

// Clock shows a moment.
type Clock struct{ now int }

// New is a clock that shows a moment.
func New(t int) (*Clock, api.Errno) {
	if !isMoment(t) {
		return nil, api.ErrArg
	}
	return &Clock{now: t}, api.OK
}

// Now is what it shows.
func (c *Clock) Now() int {
	if c == nil {
		return 0
	}
	return c.now
}

// Advance makes it show a later moment.
func (c *Clock) Advance(d int) (int, api.Errno) {
	t, e := Add(c.Now(), d)
	if c != nil && e == api.OK {
		c.now = t
	}
	return t, e
}

// Since is how many ticks have gone by since a moment.
func (c *Clock) Since(t int) (int, api.Errno) {
	return Until(t, c.Now())
}

func isMoment(t int) bool { return 0 <= t && t <= api.MaxTick }

// later asks for the ticks that are left ahead of the sum, since the sum of a moment and a span may wrap round.
func later(t, d int) int {
	if d > api.MaxTick-t {
		return api.MaxTick
	}
	return t + d
}
