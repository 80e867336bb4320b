package bucket

import "headrace/api"

// mostWithin is the greatest bound of a gate.
const mostWithin = 1000

// Gate lets so many in.
type Gate struct{ most, within int }

// Gated is a gate with nobody within.
func Gated(most int) (*Gate, api.Errno) {
	if most < 1 || most > mostWithin {
		return nil, api.ErrArg
	}
	return &Gate{most: most}, api.OK
}

// Enter lets one in.
func (g *Gate) Enter() bool {
	if g == nil || g.within >= g.most {
		return false
	}
	g.within++
	return true
}

// Leave lets one out.
func (g *Gate) Leave() bool {
	if g.Within() == 0 {
		return false
	}
	g.within--
	return true
}

// Within is how many are within.
func (g *Gate) Within() int {
	if g == nil {
		return 0
	}
	return g.within
}
