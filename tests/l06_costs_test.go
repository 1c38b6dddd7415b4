package tests

import (
	"fmt"
	"math"
	"slices"
	"testing"

	"loop.example/g01341/impl"
)

func TestPeaksOf(t *testing.T) {
	peaks := func(what string, g impl.Grid, want ...int64) {
		t.Helper()
		succeeds(t, "PeaksOf "+what, want)(impl.PeaksOf(g))
	}
	peaks("a flat grid", level(16, 16, 3))
	peaks("zeros with signs", withHeight(level(3, 3, minusZero()), 4, 0))
	peaks("a hill", withHeight(level(3, 3, 1), 4, above(1)), 4)
	peaks("a subnormal hill", withHeight(level(3, 3, 0), 4, num(1)), 4)
	peaks("a pit", withHeight(level(3, 3, 1), 4, 0))
	peaks("corners", ground(3, 3, 5, 1, 5, 1, 1, 1, 5, 1, 5), 0, 2, 6, 8)
	peaks("edges", ground(3, 3, 1, 5, 1, 1, 1, 1, 1, 5, 1), 1, 7)
	peaks("edges beside one another", ground(3, 3, 1, 5, 1, 5, 1, 1, 1, 1, 1))
	peaks("two equal ones side by side", ground(4, 2, 1, 5, 5, 1, 1, 1, 1, 1))
	peaks("one that is a little higher than another one", ground(4, 2, 1, 5, above(5), 1, 1, 1, 1, 1), 2)
	peaks("the end of a row, and the beginning of the next one", ground(3, 3, 1, 1, 5, 4, 1, 1, 1, 1, 1), 2, 3)
	peaks("heights far apart", ground(2, 2, -largest(), largest(), 0, 0), 1)
	for i := range int64(256) {
		peaks(fmt.Sprint("a hill at ", i), withHeight(level(16, 16, -1), i, 0), i)
	}
	for n, g := range append(someGrids(), oddGrids()...) {
		var want []int64
		for i, height := range g.Heights {
			isAsHigh := func(k int64) bool { return g.Heights[k] >= height }
			if !slices.ContainsFunc(beside(g, int64(i)), isAsHigh) {
				want = append(want, int64(i))
			}
		}
		peaks(fmt.Sprint("grid ", n), g, want...)
	}
}

func TestSharesAbove(t *testing.T) {
	share := func(g impl.Grid, at, want float32) {
		t.Helper()
		succeeds(t, fmt.Sprintf("SharesAbove %v of %v", at, g), want)(impl.SharesAbove(g, at))
	}
	g := ground(2, 3, 0, 1, 2, 2, -1, minusZero())
	share(g, 2, float32(2)/6)
	share(g, above(2), 0)
	share(g, below(2), float32(2)/6)
	share(g, 0, float32(5)/6)
	share(g, minusZero(), float32(5)/6)
	share(g, num(1), 0.5)
	share(g, -num(1), float32(5)/6)
	share(g, -1, 1)
	share(g, -largest(), 1)
	share(g, largest(), 0)
	share(level(16, 16, largest()), largest(), 1)
	share(withHeight(level(16, 16, 0), 200, num(1)), num(1), 1.0/256)
}

func TestMassAbove(t *testing.T) {
	mass := func(g impl.Grid, at, want float32) {
		t.Helper()
		succeeds(t, fmt.Sprintf("MassAbove %v of %v", at, g), want)(impl.MassAbove(g, at))
	}
	g := ground(2, 3, 0, 1, 2, 2, -1, minusZero())
	mass(g, 1, 2)
	mass(g, 2, 0)
	mass(g, 0, 5)
	mass(g, minusZero(), 5)
	mass(g, -1, 10)
	mass(g, -3, 22)
	mass(g, largest(), 0)
	mass(level(3, 3, minusZero()), 0, 0)
	mass(level(2, 2, num(2)), num(1), num(4))
	mass(level(2, 2, largest()), largest(), 0)
	mass(withHeight(level(2, 2, 0), 0, largest()), 0, largest())
	// Sums go in order: what is too small beside a large number is lost only behind it.
	mass(ground(2, 2, 1, 1, 1<<25, 0), 0, 1<<25)
	mass(ground(2, 2, 2, 2, 1<<25, 0), 0, 1<<25+4)
	mass(ground(2, 2, 1<<25, 2, 2, 0), 0, 1<<25)
	fails[float32](t, "MassAbove with a height that is too high above the level")(impl.MassAbove(withHeight(level(2, 2, -largest()), 3, largest()), -largest()/2))
	fails[float32](t, "MassAbove with a sum that is too large")(impl.MassAbove(level(2, 2, largest()), 0))
	fails[float32](t, "MassAbove with a sum of two that is too large")(impl.MassAbove(ground(2, 2, 0, largest()/2, largest(), 0), 0))
	// It overflows only below the level.
	mass(ground(2, 2, -largest(), -largest(), -largest(), largest()), largest()/2, largest()-largest()/2)
}

func TestLevelsThatFail(t *testing.T) {
	for _, x := range wrongNumbers() {
		for _, g := range []impl.Grid{level(2, 2, 0), hills(4, 4, 1)} {
			fails[float32](t, fmt.Sprint("SharesAbove ", x))(impl.SharesAbove(g, x))
			fails[float32](t, fmt.Sprint("MassAbove ", x))(impl.MassAbove(g, x))
		}
	}
	for _, g := range wrongGrids() {
		fails[float32](t, "SharesAbove of a wrong grid")(impl.SharesAbove(g, 1))
		fails[float32](t, "MassAbove of a wrong grid")(impl.MassAbove(g, 1e30))
		fails[[]int64](t, "PeaksOf a wrong grid")(impl.PeaksOf(g))
		fails[float32](t, "RoughGrid of a wrong grid")(impl.RoughGrid(g))
		failing(t, "LeastWay of a wrong grid", saidTwo(impl.LeastWay(g, 0, 0, 1)))
		failing(t, "LeastWay of a wrong grid", saidTwo(impl.LeastWay(g, 0, 1, 1)))
	}
}

func TestRoughGrid(t *testing.T) {
	rough := func(g impl.Grid, want float32) {
		t.Helper()
		succeeds(t, fmt.Sprint("RoughGrid of ", g), want)(impl.RoughGrid(g))
	}
	rough(ground(2, 2, 0, 1, 0, 1), 0.5)
	rough(ground(2, 2, 3, -3, 3, -3), 3)
	rough(ground(2, 3, 1, 1, 1, 1, 1, 7), impl.RootNumber(5))
	for _, height := range []float32{0, minusZero(), 3, -3, 1 << 100} {
		rough(level(2, 2, height), 0)
		rough(level(16, 16, height), 0)
	}
	rough(withHeight(level(16, 16, 0), 7, 256), impl.RootNumber(255))
	// The squares of what is subnormal vanish.
	rough(ground(2, 2, num(8), 0, num(8), 0), 0)
	// The mean of equal heights is rounded, so that it may be another number.
	rough(ground(3, 2, 0.1, 0.1, 0.1, 0.1, 0.1, 0.1), func() float32 {
		sum := float32(0)
		for range 6 {
			sum += 0.1
		}
		more := 0.1 - sum/6
		square, squares := float32(more*more), float32(0)
		for range 6 {
			squares += square
		}
		return impl.RootNumber(squares / 6)
	}())
	rough(ground(2, 2, 9e18, -9e18, 9e18, -9e18), 9e18)
	fails[float32](t, "RoughGrid with squares that are too large")(impl.RoughGrid(ground(2, 2, 2e19, -2e19, 0, 0)))
	fails[float32](t, "RoughGrid with a sum of squares that is too large")(impl.RoughGrid(ground(2, 2, 1e19, -1e19, 1e19, -1e19)))
	fails[float32](t, "RoughGrid with a sum that is too large")(impl.RoughGrid(level(2, 2, largest())))
}

func TestLeastWay(t *testing.T) {
	root := impl.LongOf(1 + 1i)
	least := func(what string, g impl.Grid, from, to int64, climb, cost float32, way ...int64) {
		t.Helper()
		saidTo(t, what, saidTwo(impl.LeastWay(g, from, to, climb)), way, cost)
	}
	flat := level(3, 3, 7)
	least("from a place to itself", flat, 4, 4, 1, 0, 4)
	least("along a row", flat, 0, 2, 1, 2, 0, 1, 2)
	least("along a column", flat, 8, 2, 1, 2, 8, 5, 2)
	least("across", flat, 0, 8, 1, root+root, 0, 4, 8)
	least("to a neighbour", flat, 4, 8, 1, root, 4, 8)
	// Both ways cost the same; the place that is settled first stays the one before.
	least("across and along", flat, 0, 5, 1, 1+root, 0, 1, 5)
	least("along and across", flat, 0, 7, 1, 1+root, 0, 3, 7)
	// Two places beside both ends cost the same; the first one of them is settled first.
	least("around a peak", withHeight(flat, 4, 9), 3, 5, 1, root+root, 3, 1, 5)
	least("around a peak, upwards", withHeight(flat, 4, 9), 7, 1, 1, root+root, 7, 3, 1)
	least("back", flat, 5, 0, 1, 1+root, 5, 4, 0)
	least("a long way", level(16, 16, 0), 0, 255, 0, sumOf(root, 15), 0, 17, 34, 51, 68, 85, 102, 119, 136, 153, 170, 187, 204, 221, 238, 255)
	wall := ground(4, 3, 0, 9, 0, 0, 0, 9, 0, 0, 0, 0, 0, 0)
	least("around a wall", wall, 0, 2, 1, 2+root+root, 0, 4, 9, 6, 2)
	least("over a wall that costs nothing", wall, 0, 2, 0, 2, 0, 1, 2)
	least("over a wall that costs little", wall, 0, 2, 0.25, 2+9*0.25, 0, 1, 2)
	least("over a wall with a climb that is a zero with a sign", wall, 0, 2, minusZero(), 2, 0, 1, 2)
	least("down from a wall", wall, 1, 2, 100, 1, 1, 2)
	least("up on a wall", wall, 0, 1, 2, 19, 0, 1)
	least("on from a wall to one that is as high", wall, 1, 5, 2, 1, 1, 5)
	least("a subnormal climb", ground(2, 2, 0, num(1), 0, 0), 0, 1, 1, 1, 0, 1)
	// Only a rise counts, not a fall that is as great.
	least("up and down", ground(3, 2, 1, 0, 1, 5, 5, 5), 0, 2, 1, 3, 0, 1, 2)
	least("a very high climb", ground(2, 2, 0, 1, 0, 1), 0, 1, 1e38, 1e38, 0, 1)
	// As soon as the place is settled, no cost is told any more, so that a cliff behind it does not matter.
	least("before a cliff", ground(4, 2, 0, 0, 0, largest(), 0, 0, 0, largest()), 0, 1, 2, 1, 0, 1)
	least("from a place beside a cliff to itself", ground(2, 2, 0, largest(), 0, 0), 0, 0, 2, 0, 0)
	least("down a cliff", ground(2, 2, largest(), -largest(), 0, 0), 0, 1, 2, 1, 0, 1)
	up := ground(4, 2, 0, 0, 0, largest(), 0, 0, 0, largest())
	least("from below a cliff, which is settled", ground(3, 2, largest(), -largest(), -largest(), -largest(), -largest(), -largest()), 0, 2, 1, 2, 0, 1, 2)
	failing(t, "up a cliff that costs too much", saidTwo(impl.LeastWay(up, 0, 3, 2)))
	failing(t, "a rise that is too high", saidTwo(impl.LeastWay(ground(2, 2, -largest(), largest(), 0, 0), 0, 1, 1)))
	failing(t, "beside a rise that is too high", saidTwo(impl.LeastWay(ground(2, 2, -largest(), largest(), 0, 0), 0, 2, 1)))
	failing(t, "a rise that is too high, times 0", saidTwo(impl.LeastWay(ground(2, 2, -largest(), largest(), 0, 0), 0, 1, 0)))
	least("a rise that is just not too high", ground(2, 2, 0, largest(), 0, 0), 0, 1, 1, largest(), 0, 1)
	failing(t, "rises that are too high together", saidTwo(impl.LeastWay(ground(4, 2, -largest(), 0, largest(), 0, -largest(), 0, largest(), 0), 0, 2, 1)))
	// That there is a cheaper way does not help if a cost that is told is too large.
	detour := ground(3, 2, 0, 0, 0, 0, largest(), 0)
	failing(t, "beside a peak that costs too much", saidTwo(impl.LeastWay(detour, 0, 2, 2)))
	least("beside a peak that costs much", detour, 0, 2, 1, 2, 0, 1, 2)
	for _, i := range wrongIndices(flat) {
		failing(t, fmt.Sprint("LeastWay from ", i), saidTwo(impl.LeastWay(flat, i, 1, 1)))
		failing(t, fmt.Sprint("LeastWay to ", i), saidTwo(impl.LeastWay(flat, 1, i, 1)))
		failing(t, fmt.Sprint("LeastWay from and to ", i), saidTwo(impl.LeastWay(flat, i, i, 1)))
	}
	for _, climb := range append(wrongNumbers(), -num(1), -1, -largest()) {
		failing(t, fmt.Sprint("LeastWay with ", climb), saidTwo(impl.LeastWay(flat, 0, 8, climb)))
		failing(t, fmt.Sprint("LeastWay to itself with ", climb), saidTwo(impl.LeastWay(flat, 3, 3, climb)))
	}
}

// sumOf returns x, added n times to 0.
func sumOf(x float32, n int) float32 {
	sum := float32(0)
	for range n {
		sum += x
	}
	return sum
}

// costOf is what a step to a neighbour costs.
func costOf(g impl.Grid, from, to int64, climb float32) float32 {
	far := impl.LongOf(complex(float32(to%g.Wide-from%g.Wide), float32(to/g.Wide-from/g.Wide)))
	return far + float32(climb*max(g.Heights[to]-g.Heights[from], 0))
}

// A least way goes from neighbour to neighbour, costs what its steps cost, and no way costs less.
func TestLeastWaysAreLeast(t *testing.T) {
	for n, g := range someGrids() {
		count := int64(len(g.Heights))
		if count > 40 {
			continue
		}
		from, climb := int64(n*5)%count, float32(n%4)/2
		// Costs become less until none is more than that of a neighbour, plus that of the step.
		costs := slices.Repeat([]float32{math.MaxFloat32}, int(count))
		costs[from] = 0
		for range count {
			for i := range count {
				for _, k := range beside(g, i) {
					costs[k] = min(costs[k], costs[i]+costOf(g, i, k, climb))
				}
			}
		}
		for to := range count {
			way, cost, ok := impl.LeastWay(g, from, to, climb)
			if !ok || len(way) == 0 || way[0] != from || way[len(way)-1] != to || cost != costs[to] {
				t.Fatalf("the way from %d to %d of grid %d is %v, %v, %v", from, to, n, way, cost, ok)
			}
			sum := float32(0)
			for i, k := range way[1:] {
				if !slices.Contains(beside(g, way[i]), k) {
					t.Errorf("grid %d: the way %v goes from %d to %d, which is not beside", n, way, way[i], k)
				}
				sum += costOf(g, way[i], k, climb)
			}
			if sum != cost {
				t.Errorf("grid %d: the way %v costs %v, not %v", n, way, sum, cost)
			}
		}
	}
}
