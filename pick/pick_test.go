package pick_test

import (
	"math"
	"math/rand"
	"slices"
	"testing"

	"headrace/api"
	"headrace/pick"
)

const greatestDraw = 4294967295

// draws lie within, at the edges and between; noDraws outside on both sides, as near and as far as they may.
var (
	draws   = []int{0, 1, 2, 3, 14, 15, 16, 17, 239, 240, 1 << 31, greatestDraw - 1, greatestDraw}
	noDraws = []int{-1, -2, math.MinInt, greatestDraw + 1, greatestDraw + 2, math.MaxInt}
)

func two(t *testing.T, n, a, b, i, j int) {
	t.Helper()
	if x, y, e := pick.Two(n, a, b); x != i || y != j || e != api.OK {
		t.Errorf("Two(%d, %d, %d): %d, %d, %v; want %d, %d", n, a, b, x, y, e, i, j)
	}
}

func noTwo(t *testing.T, n, a, b int) {
	t.Helper()
	if x, y, e := pick.Two(n, a, b); x != 0 || y != 0 || e != api.ErrArg {
		t.Errorf("Two(%d, %d, %d): %d, %d, %v", n, a, b, x, y, e)
	}
}

func picks(t *testing.T, loads []int, a, b, want int) {
	t.Helper()
	if i, e := pick.Pick(loads, a, b); i != want || e != api.OK {
		t.Errorf("Pick(%v, %d, %d): %d, %v; want %d", loads, a, b, i, e, want)
	}
}

func noPick(t *testing.T, loads []int, a, b int, want api.Errno) {
	t.Helper()
	if i, e := pick.Pick(loads, a, b); i != 0 || e != want {
		t.Errorf("Pick(%v, %d, %d): %d, %v; want 0, %v", loads, a, b, i, e, want)
	}
}

// The chapter's examples.
func TestExamples(t *testing.T) {
	two(t, 3, 4, 1, 1, 2)
	picks(t, []int{5, 1, 5}, 0, 1, 0)
	picks(t, []int{9}, 7, 7, 0)
}

// 21.1: the first is the rest of a, the second that of b among the others: just below the first, just it and just above it.
func TestTwo(t *testing.T) {
	for _, x := range [][5]int{
		{2, 0, 0, 0, 1}, {2, 1, 0, 1, 0}, {2, 0, 1, 0, 1}, {2, 3, 7, 1, 0},
		{3, 0, 0, 0, 1}, {3, 0, 1, 0, 2}, {3, 1, 0, 1, 0}, {3, 1, 1, 1, 2}, {3, 2, 0, 2, 0}, {3, 2, 1, 2, 1},
		{5, 2, 1, 2, 1}, {5, 2, 2, 2, 3}, {5, 2, 3, 2, 4}, {5, 2, 4, 2, 0}, {5, 7, 5, 2, 1}, {5, 7, 6, 2, 3},
		{15, 14, 13, 14, 13}, {15, 14, 14, 14, 0}, {15, 15, 0, 0, 1},
		{16, 15, 14, 15, 14}, {16, 0, 14, 0, 15}, {16, 16, 15, 0, 1}, {16, 7, 6, 7, 6}, {16, 7, 7, 7, 8},
		// 2^32 - 1 is odd; by 3, 5 and 15 it has no rest, by 16 it has 15.
		{2, greatestDraw, greatestDraw, 1, 0}, {3, greatestDraw, greatestDraw, 0, 2}, {3, greatestDraw - 1, 0, 2, 0},
		{16, greatestDraw, greatestDraw, 15, 0}, {16, greatestDraw, greatestDraw - 1, 15, 14}, {16, 0, greatestDraw, 0, 1},
	} {
		two(t, x[0], x[1], x[2], x[3], x[4])
	}
	for n := 2; n <= api.MaxHosts; n++ {
		for _, a := range draws {
			for _, b := range draws {
				others := slices.Delete(numbered(n), a%n, a%n+1)
				two(t, n, a, b, a%n, others[b%len(others)])
			}
		}
	}
}

// numbered are the numbers from 0 on, so many.
func numbered(n int) []int {
	var l []int
	for i := range n {
		l = append(l, i)
	}
	return l
}

// 21.1, R4: n out of its range, or what is no draw, is an error; one is enough.
func TestTwoWrong(t *testing.T) {
	if api.MaxHosts != 16 {
		t.Fatalf("MaxHosts: %d", api.MaxHosts)
	}
	all := append(slices.Clone(draws), noDraws...)
	for _, n := range []int{1, 0, -1, math.MinInt, 17, 18, math.MaxInt} {
		for _, a := range all {
			for _, b := range all {
				noTwo(t, n, a, b)
			}
		}
	}
	for n := 2; n <= 16; n++ {
		for _, no := range noDraws {
			for _, x := range all {
				noTwo(t, n, no, x)
				noTwo(t, n, x, no)
			}
		}
	}
}

// 21.2: of two the one whose load is less, whichever was drawn first; of the same the lesser one.
func TestPick(t *testing.T) {
	for _, x := range []struct{ less, more int }{{1, 2}, {0, 1}, {-1, 0}, {-2, -1}, {-5, 5}, {math.MinInt, math.MaxInt}, {math.MinInt, math.MinInt + 1}, {math.MinInt, 1}, {-2, math.MaxInt}, {math.MaxInt - 1, math.MaxInt}} {
		for _, a := range draws {
			for _, b := range draws {
				picks(t, []int{x.less, x.more}, a, b, 0)
				picks(t, []int{x.more, x.less}, a, b, 1)
				picks(t, []int{x.less, x.less}, a, b, 0)
				picks(t, []int{x.more, x.more}, a, b, 0)
			}
		}
	}
	// Those that are not drawn are not looked at: of three, 2 and 0, then 2 and 1.
	picks(t, []int{5, 1, 5}, 2, 0, 0)
	picks(t, []int{5, 1, 5}, 2, 1, 1)
	picks(t, []int{5, math.MinInt, 4}, 2, 0, 2)
	picks(t, []int{5, 6, math.MinInt}, 1, 0, 0)
	picks(t, []int{math.MinInt, 7, 7}, 2, 1, 1)
	picks(t, []int{math.MinInt, 7, 7}, 1, 1, 1)
}

// 21.2: of one member it is that, whatever its load.
func TestPickOne(t *testing.T) {
	for _, load := range []int{0, 1, -1, 9, math.MinInt, math.MaxInt} {
		for _, a := range draws {
			for _, b := range draws {
				picks(t, []int{load}, a, b, 0)
			}
		}
	}
}

// 21.2: over as many hosts as may be, each pair, by equal loads and by others.
func TestPickMany(t *testing.T) {
	r := rand.New(rand.NewSource(21))
	for n := 2; n <= api.MaxHosts; n++ {
		for _, bound := range []int{1, 2, 3, 100} {
			loads := make([]int, n)
			for i := range loads {
				loads[i] = r.Intn(bound) - bound/2
			}
			for a := range n {
				for b := range n - 1 {
					i, j, _ := pick.Two(n, a, b)
					want := min(i, j)
					if loads[i] != loads[j] {
						want = map[bool]int{true: i, false: j}[loads[i] < loads[j]]
					}
					picks(t, loads, a, b, want)
				}
			}
		}
	}
}

// 21.2, R4: that there is none comes first, then that there are too many, then what is no draw; of one member too.
func TestPickWrong(t *testing.T) {
	all := append(slices.Clone(draws), noDraws...)
	for _, a := range all {
		for _, b := range all {
			noPick(t, nil, a, b, api.ErrNone)
			noPick(t, []int{}, a, b, api.ErrNone)
			noPick(t, make([]int, 3)[:0], a, b, api.ErrNone)
			for _, n := range []int{17, 18, 1000} {
				noPick(t, make([]int, n), a, b, api.ErrLong)
			}
		}
	}
	for _, n := range []int{1, 2, 3, 15, 16} {
		loads := make([]int, n)
		loads[0] = 1
		for _, no := range noDraws {
			for _, x := range all {
				noPick(t, loads, no, x, api.ErrArg)
				noPick(t, loads, x, no, api.ErrArg)
			}
		}
	}
}

// 21.3: the two are two of n, and over all draws below n and n - 1 each pair comes just once.
func TestEachPairOnce(t *testing.T) {
	for n := 2; n <= api.MaxHosts; n++ {
		times := map[[2]int]int{}
		for a := range n {
			for b := range n - 1 {
				i, j, e := pick.Two(n, a, b)
				if i == j || min(i, j) < 0 || max(i, j) >= n || e != api.OK {
					t.Fatalf("Two(%d, %d, %d): %d, %d, %v", n, a, b, i, j, e)
				}
				times[[2]int{i, j}]++
			}
		}
		for pair, x := range times {
			if x != 1 {
				t.Errorf("of %d: %v comes %d times", n, pair, x)
			}
		}
		if len(times) != n*(n-1) {
			t.Errorf("of %d: %d pairs", n, len(times))
		}
	}
}

// 21.3: the one of the greatest load is never taken, if all others are less; each of them is.
func TestGreatestAlone(t *testing.T) {
	for n := 2; n <= api.MaxHosts; n++ {
		for worst := range n {
			loads := make([]int, n)
			for i := range loads {
				loads[i] = i%3 - 1
			}
			loads[worst] = 2
			taken := make([]int, n)
			for a := range n {
				for b := range n - 1 {
					i, _ := pick.Pick(loads, a, b)
					taken[i]++
				}
			}
			for i, x := range taken {
				if (x == 0) != (i == worst) {
					t.Errorf("%v: %d is taken %d times", loads, i, x)
				}
			}
		}
	}
}

// 21.2, 21.3: of the greatest load twice one is taken where both are drawn: the lesser one, never the other.
func TestGreatestTwice(t *testing.T) {
	for n := 2; n <= api.MaxHosts; n++ {
		for second := 1; second < n; second++ {
			for first := range second {
				loads := make([]int, n)
				loads[first], loads[second] = 1, 1
				taken := 0
				for a := range n {
					for b := range n - 1 {
						i, _ := pick.Pick(loads, a, b)
						if i == second {
							t.Errorf("Pick(%v, %d, %d): %d", loads, a, b, i)
						}
						if i == first {
							taken++
						}
					}
				}
				if taken != 2 {
					t.Errorf("%v: %d is taken %d times", loads, first, taken)
				}
			}
		}
	}
}

// R3, R6: what is handed in stays as it was, spare room too, and told again it is the same.
func TestLeavesLoads(t *testing.T) {
	room := []int{5, 1, 5, 7, -3, 8}
	before := slices.Clone(room)
	for n := range room {
		for _, a := range append(slices.Clone(noDraws), draws...) {
			i, e := pick.Pick(room[:n], a, 3)
			j, f := pick.Pick(room[:n], a, 3)
			if i != j || e != f {
				t.Errorf("Pick(%v, %d, 3): %d, %v, then %d, %v", room[:n], a, i, e, j, f)
			}
		}
	}
	if !slices.Equal(room, before) {
		t.Errorf("the loads became %v", room)
	}
}
