package tests

import (
	"fmt"
	"slices"
	"testing"

	"loop.example/g01341/impl"
)

// wetGrids are valid grids on which no fall between neighbours overflows: ordinary ones, flat ones, slopes, and ones of subnormal numbers and zeros with signs.
func wetGrids() []impl.Grid {
	list := someGrids()
	for seed := range 20 {
		g, tiny := hills(5, 4, seed), ground(4, 5)
		for i := range g.Heights {
			tiny.Heights = append(tiny.Heights, []float32{num(1), 0, minusZero(), num(2), -num(1), num(0x7fffff), num(0x800000)}[(i*i+seed*i)%7])
			g.Heights[i] = float32(i%5)*float32(seed-10) + float32(i/5)
		}
		list = append(list, g, tiny)
	}
	for _, fall := range []float32{1, -1, 0.25} {
		cone, _ := impl.ConeGrid(9, 8, 4+3.5i, 3, fall)
		list = append(list, cone)
	}
	return list
}

// steepness is how steeply a place falls to a neighbour.
func steepness(g impl.Grid, i, k int64) float32 {
	far := impl.LongOf(complex(float32(i%g.Wide-k%g.Wide), float32(i/g.Wide-k/g.Wide)))
	return (g.Heights[i] - g.Heights[k]) / far
}

// Promise 7: water goes down, where it is steepest, and stops only where nothing is lower.
func TestWaterGoesDown(t *testing.T) {
	for n, g := range wetGrids() {
		drains, ok := impl.DrainsOf(g)
		if !ok || len(drains) != len(g.Heights) {
			t.Fatalf("DrainsOf grid %d: got %v, %v", n, drains, ok)
		}
		for i, drain := range drains {
			for _, k := range beside(g, int64(i)) {
				lower := g.Heights[k] < g.Heights[i]
				if drain < 0 && lower || k == drain && !lower {
					t.Errorf("grid %d: water goes from %d to %d, and %d is beside", n, i, drain, k)
				}
				if drain < 0 {
					continue
				}
				steep, most := steepness(g, int64(i), k), steepness(g, int64(i), drain)
				if steep > most || steep == most && k < drain {
					t.Errorf("grid %d: water goes from %d to %d, but %d is steeper or as steep", n, i, drain, k)
				}
			}
			if drain >= 0 && !slices.Contains(beside(g, int64(i)), drain) || drain < -1 {
				t.Errorf("grid %d: water goes from %d to %d, which is not beside", n, i, drain)
			}
		}
	}
}

// Promise 7: water ends in sinks, all of it.
func TestWaterEndsInSinks(t *testing.T) {
	for n, g := range wetGrids() {
		drains, _ := impl.DrainsOf(g)
		sinks, ok := impl.SinksOf(g)
		flows, also := impl.FlowsOf(g)
		if !ok || !also || len(sinks) != len(drains) || len(flows) != len(drains) {
			t.Fatalf("grid %d: got %v, %v, %v, %v", n, sinks, ok, flows, also)
		}
		inflows := make([]int64, len(drains))
		ended := int64(0)
		for i, drain := range drains {
			if drain >= 0 {
				inflows[drain] += flows[i]
				if sinks[i] != sinks[drain] {
					t.Errorf("grid %d: water of %d ends in %d, but goes through %d, whose water ends in %d", n, i, sinks[i], drain, sinks[drain])
				}
				continue
			}
			ended += flows[i]
			if sinks[i] != int64(i) {
				t.Errorf("grid %d: water of %d, which is a sink, ends in %d", n, i, sinks[i])
			}
		}
		for i, flow := range flows {
			if flow != inflows[i]+1 {
				t.Errorf("grid %d: water of %d places comes through %d, but %d flow in", n, flow, i, inflows[i])
			}
		}
		if ended != int64(len(drains)) {
			t.Errorf("grid %d: water of %d places out of %d ends", n, ended, len(drains))
		}
	}
}

// reaches reports whether one comes from a place to the edge of a grid by places that are not higher than most.
func reaches(g impl.Grid, from int64, most float32) bool {
	if g.Heights[from] > most {
		return false
	}
	seen := map[int64]bool{from: true}
	for open := []int64{from}; len(open) > 0; open = open[1:] {
		if isOuter(g, open[0]) {
			return true
		}
		for _, k := range beside(g, open[0]) {
			if !seen[k] && g.Heights[k] <= most {
				seen[k] = true
				open = append(open, k)
			}
		}
	}
	return false
}

// Promise 7: filled grids have no pits, and no place is raised more than is needed.
func TestFilledGridsHaveNoPits(t *testing.T) {
	for n, g := range append(wetGrids(), oddGrids()...) {
		filled, count, ok := impl.FillPits(g)
		if !ok || !impl.ValidGrid(filled) || filled.Wide != g.Wide || filled.High != g.High {
			t.Fatalf("FillPits of grid %d: got %v, %v", n, filled, ok)
		}
		raised := int64(0)
		for i, height := range filled.Heights {
			if !reaches(filled, int64(i), height) {
				t.Errorf("grid %d: water does not come from %d to the edge", n, i)
			}
			old := g.Heights[i]
			if height > old {
				raised++
				if isOuter(g, int64(i)) || !slices.Contains(g.Heights, height) || !reaches(g, int64(i), height) || reaches(g, int64(i), below(height)) && height > 0 {
					t.Errorf("grid %d: the place %d is raised from %v to %v", n, i, old, height)
				}
			} else if tell(height) != tell(old) {
				t.Errorf("grid %d: the place %d, which is not raised, changes from %s to %s", n, i, tell(old), tell(height))
			}
		}
		if count != raised {
			t.Errorf("grid %d: %d places are raised, but %d are told", n, raised, count)
		}
		saidTo(t, fmt.Sprintf("FillPits of the filled grid %d", n), saidTwo(impl.FillPits(filled)), filled, int64(0))
	}
}

// Promise 7: from a filled grid, water that may also go on level ground leaves; so no inner place of it is lower than all its neighbours.
func TestFilledGridsHaveNoLowestPlaces(t *testing.T) {
	for n, g := range wetGrids() {
		filled, _, _ := impl.FillPits(g)
		for i, height := range filled.Heights {
			isLower := func(k int64) bool { return height < filled.Heights[k] }
			if !isOuter(g, int64(i)) && !slices.ContainsFunc(beside(g, int64(i)), func(k int64) bool { return !isLower(k) }) {
				t.Errorf("grid %d: the inner place %d is still a pit", n, i)
			}
		}
	}
}

// On a flat grid, water stays where it is, and nothing is filled.
func TestWaterOnFlatGrids(t *testing.T) {
	for _, height := range []float32{0, minusZero(), 3, -3, num(1), largest(), -largest()} {
		for _, sides := range [][2]int64{{2, 2}, {3, 3}, {16, 16}, {2, 16}} {
			g := level(sides[0], sides[1], height)
			what := fmt.Sprintf("a grid of %v", height)
			count := len(g.Heights)
			own := make([]int64, count)
			for i := range own {
				own[i] = int64(i)
			}
			saidTo(t, "DrainsOf "+what, said(impl.DrainsOf(g)), slices.Repeat([]int64{-1}, count))
			saidTo(t, "SinksOf "+what, said(impl.SinksOf(g)), own)
			saidTo(t, "FlowsOf "+what, said(impl.FlowsOf(g)), slices.Repeat([]int64{1}, count))
			saidTo(t, "FillPits "+what, saidTwo(impl.FillPits(g)), g, int64(0))
		}
	}
	// Zeros are equal, whatever their signs are.
	g := ground(3, 3, 0, minusZero(), 0, minusZero(), minusZero(), 0, 0, 0, minusZero())
	saidTo(t, "DrainsOf zeros", said(impl.DrainsOf(g)), slices.Repeat([]int64{-1}, 9))
	saidTo(t, "FillPits of zeros", saidTwo(impl.FillPits(g)), g, int64(0))
	g = withHeight(level(3, 3, 0), 4, minusZero())
	saidTo(t, "FillPits of a zero within zeros", saidTwo(impl.FillPits(g)), g, int64(0))
	g = withHeight(level(3, 3, minusZero()), 4, -1)
	saidTo(t, "FillPits up to zeros", saidTwo(impl.FillPits(g)), level(3, 3, minusZero()), int64(1))
	g = withHeight(level(3, 3, 0), 4, -num(1))
	saidTo(t, "FillPits of a tiny pit", saidTwo(impl.FillPits(g)), level(3, 3, 0), int64(1))
}

func TestDrains(t *testing.T) {
	middle := func(heights ...float32) string {
		drains, ok := impl.DrainsOf(ground(3, 3, heights...))
		if !ok {
			return "fails"
		}
		return fmt.Sprint(drains[4])
	}
	root := impl.LongOf(1 + 1i)
	expect(t, "all equally steep", middle(-root, -1, -root, -1, 0, -1, -root, -1, -root), "0")
	expect(t, "the straight ones steeper", middle(-1, -1, -1, -1, 0, -1, -1, -1, -1), "1")
	expect(t, "a straight one before an equally steep one", middle(0, 0, 0, 0, 0, -1, -root, 0, 0), "5")
	expect(t, "a slanting one that is a little less steep", middle(-below(root), -1, 0, 0, 0, 0, 0, 0, 0), "1")
	expect(t, "a slanting one that is a little steeper", middle(0, -1, 0, 0, 0, 0, 0, 0, -above(root)), "8")
	expect(t, "the last neighbour", middle(2, 2, 2, 2, 2, 2, 2, 2, 1), "8")
	expect(t, "a pit", middle(2, 2, 2, 2, 1, 2, 2, 2, 2), "-1")
	expect(t, "a step to an equal height", middle(3, 3, 3, 3, 2, 2, 3, 3, 3), "-1")
	// The quotient of the least number and the root of 2 is rounded up to the former.
	expect(t, "subnormal falls", middle(0, 0, 0, 0, num(1), 0, 0, 0, 0), "0")
	expect(t, "falls to a zero with a sign", middle(0, 0, minusZero(), 0, 0, 0, 0, 0, 0), "-1")
	succeeds(t, "a row of steps", []int64{-1, 0, 1, -1, 3, 4})(impl.DrainsOf(ground(3, 2, 0, 1, 2, 0, 1, 2)))
	succeeds(t, "corners", []int64{-1, 0, 0, 0})(impl.DrainsOf(ground(2, 2, 0, 1, 1, 2)))
	succeeds(t, "the edges of a pit", []int64{4, 4, 4, 4, -1, 4, 4, 4, 4})(impl.DrainsOf(ground(3, 3, 2, 2, 2, 2, 0, 2, 2, 2, 2)))
	succeeds(t, "a pit at the edge", []int64{1, -1, 1, 1, 1, 1, 3, 4, 5})(impl.DrainsOf(ground(3, 3, 1, 0, 1, 1, 1, 1, 2, 2, 2)))
	succeeds(t, "sinks of a pit at the edge", []int64{1, 1, 1, 1, 1, 1, 1, 1, 1})(impl.SinksOf(ground(3, 3, 1, 0, 1, 1, 1, 1, 2, 2, 2)))
	succeeds(t, "flows of a pit at the edge", []int64{1, 9, 1, 2, 2, 2, 1, 1, 1})(impl.FlowsOf(ground(3, 3, 1, 0, 1, 1, 1, 1, 2, 2, 2)))
	// Rows do not go on in one another.
	succeeds(t, "the end of a row", []int64{3, 3, 1, -1, 3, -1})(impl.DrainsOf(ground(3, 2, 5, 5, 6, 0, 5, 5)))
}

func TestDrainsThatOverflow(t *testing.T) {
	half := largest() / 2
	for i := range int64(9) {
		// A fall may be as great as the largest number, but not greater, wherever it is, and in both directions.
		for _, k := range beside(level(3, 3, 0), i) {
			for _, sign := range []float32{1, -1} {
				g := withHeight(withHeight(level(3, 3, 0), i, sign*half), k, -sign*half)
				if drains, ok := impl.DrainsOf(g); !ok || len(drains) != 9 {
					t.Errorf("DrainsOf %v: got %v, %v", g, drains, ok)
				}
				g = withHeight(g, i, sign*largest())
				what := fmt.Sprint(g)
				fails[[]int64](t, "DrainsOf "+what)(impl.DrainsOf(g))
				fails[[]int64](t, "SinksOf "+what)(impl.SinksOf(g))
				fails[[]int64](t, "FlowsOf "+what)(impl.FlowsOf(g))
			}
		}
	}
	// Places that are no neighbours may be as far apart as can be.
	succeeds(t, "DrainsOf far apart", []int64{1, 2, 3, -1, 5, 6, 7, -1})(impl.DrainsOf(ground(4, 2, largest(), 1, -1, -largest(), largest(), 1, -1, -largest())))
}

func TestFillPits(t *testing.T) {
	filledTo := func(what string, g impl.Grid, count int64, heights ...float32) {
		t.Helper()
		saidTo(t, "FillPits "+what, saidTwo(impl.FillPits(g)), ground(g.Wide, g.High, heights...), count)
	}
	filledTo("a pit", ground(3, 3, 2, 2, 2, 2, 0, 2, 2, 2, 2), 1, 2, 2, 2, 2, 2, 2, 2, 2, 2)
	filledTo("a pit beside a slanting gap", ground(3, 3, 2, 2, 2, 2, 0, 2, 2, 2, 1), 1, 2, 2, 2, 2, 1, 2, 2, 2, 1)
	filledTo("a lake whose gap is the first corner", ground(4, 4, 1, 2, 2, 2, 2, 0, 0, 2, 2, 0, 0, 2, 2, 2, 2, 2), 4, 1, 2, 2, 2, 2, 1, 1, 2, 2, 1, 1, 2, 2, 2, 2, 2)
	filledTo("a lake whose gap is the last corner", ground(4, 4, 2, 2, 2, 2, 2, 0, 0, 2, 2, 0, 0, 2, 2, 2, 2, 1), 4, 2, 2, 2, 2, 2, 1, 1, 2, 2, 1, 1, 2, 2, 2, 2, 1)
	filledTo("a pit beside a lower edge", ground(3, 3, 2, -1, 2, 2, 0, 2, 2, 2, 2), 0, 2, -1, 2, 2, 0, 2, 2, 2, 2)
	filledTo("a pit beside an equal edge", ground(3, 3, 2, 2, 2, 0, 0, 2, 2, 2, 2), 0, 2, 2, 2, 0, 0, 2, 2, 2, 2)
	filledTo("a hill", ground(3, 3, 2, 2, 2, 2, 5, 2, 2, 2, 2), 0, 2, 2, 2, 2, 5, 2, 2, 2, 2)
	filledTo("pits at the edge", ground(3, 3, -9, 2, 2, 2, 3, -8, 2, -7, 2), 0, -9, 2, 2, 2, 3, -8, 2, -7, 2)
	filledTo("pits at the edges of two rows", ground(4, 2, 5, 0, 5, 0, 0, 5, 0, 5), 0, 5, 0, 5, 0, 0, 5, 0, 5)
	filledTo("pits at the edges of two columns", ground(2, 4, 5, 0, 5, 0, 0, 5, 0, 5), 0, 5, 0, 5, 0, 0, 5, 0, 5)
	filledTo("largest heights", ground(3, 3, slices.Insert(slices.Repeat([]float32{largest()}, 8), 4, -largest())...), 1, slices.Repeat([]float32{largest()}, 9)...)
	filledTo("a lake with an island and a gap",
		ground(5, 5, 9, 9, 9, 9, 9, 9, 1, 2, 1, 9, 9, 3, 8, 3, 9, 9, 1, 0, 1, 4, 9, 9, 9, 9, 9), 8,
		9, 9, 9, 9, 9, 9, 4, 4, 4, 9, 9, 4, 8, 4, 9, 9, 4, 4, 4, 4, 9, 9, 9, 9, 9)
	filledTo("two pits, one of which flows over into the other one",
		ground(6, 4, 9, 9, 9, 9, 9, 9, 9, 0, 5, 1, 3, 9, 9, 7, 7, 7, 3, 9, 9, 9, 9, 9, 3, 9), 2,
		9, 9, 9, 9, 9, 9, 9, 5, 5, 3, 3, 9, 9, 7, 7, 7, 3, 9, 9, 9, 9, 9, 3, 9)
}

func TestWaterOfWrongGrids(t *testing.T) {
	for _, g := range wrongGrids() {
		what := fmt.Sprintf("a wrong grid %dx%d of %v", g.Wide, g.High, g.Heights)
		fails[[]int64](t, "DrainsOf "+what)(impl.DrainsOf(g))
		fails[[]int64](t, "SinksOf "+what)(impl.SinksOf(g))
		fails[[]int64](t, "FlowsOf "+what)(impl.FlowsOf(g))
		failing(t, "FillPits "+what, saidTwo(impl.FillPits(g)))
	}
}
