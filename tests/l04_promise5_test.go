package tests

import (
	"fmt"
	"math"
	"testing"

	"loop.example/g01341/impl"
)

// thinner is a function that makes lines simpler.
type thinner = func([]complex64, float32) ([]complex64, bool)

func thinners() map[string]thinner {
	return map[string]thinner{"ThinByHeights": impl.ThinByHeights, "ThinByAreas": impl.ThinByAreas, "ThinSafely": impl.ThinSafely}
}

// ordinaryLines are lines of many lengths, with and without crossings, and with points on one another.
func ordinaryLines() [][]complex64 {
	lines := [][]complex64{{0, 1}, {1, 1}, {0, 1 + 1i, 2}, make([]complex64, 5), square(0, 4)}
	for seed, n := range []int{3, 4, 5, 6, 8, 11, 16, 23, 32, 47, 64, 97, 127, 128} {
		lines = append(lines, tangle(n, seed), lattice(n, seed), wander(n, seed), zigzag(n))
	}
	return lines
}

func limits() []float32 {
	return []float32{0, num(1), 1e-3, 0.05, 0.3, 1, 2, 7, 40, 1e10, largest()}
}

// isPartOf reports whether a list is another one without some of its items.
func isPartOf(list, whole []complex64) bool {
	for _, z := range whole {
		if len(list) > 0 && tell(list[0]) == tell(z) {
			list = list[1:]
		}
	}
	return len(list) == 0
}

// keepsEnds checks that a simpler line has both ends of a line, and only points of it between them, in order.
func keepsEnds(t *testing.T, what string, line, thin []complex64) {
	t.Helper()
	if len(thin) < 2 || tell(thin[0]) != tell(line[0]) || tell(thin[len(thin)-1]) != tell(line[len(line)-1]) || !isPartOf(thin, line) {
		t.Errorf("%s: %s became %s", what, tell(line), tell(thin))
	}
}

// Promise 5: simple lines keep their ends.
func TestSimpleLinesKeepTheirEnds(t *testing.T) {
	for name, thin := range thinners() {
		for _, line := range ordinaryLines() {
			for _, limit := range limits() {
				got, ok := thin(line, limit)
				if !ok {
					t.Errorf("%s fails for %s", name, tell(line))
					continue
				}
				keepsEnds(t, name, line, got)
			}
		}
		for seed := range 200 {
			line := wideLine(seed%9+2, seed)
			if got, ok := thin(line, limits()[seed%11]); ok {
				keepsEnds(t, name, line, got)
			}
		}
	}
}

func TestSharedAndSmoothLinesKeepTheirEnds(t *testing.T) {
	lines := ordinaryLines()
	for i := range lines {
		group := lines[i:min(i+16, len(lines))]
		shared, ok := impl.ThinShared(group, 0.3, 3)
		if !ok || len(shared) != len(group) {
			t.Fatalf("ThinShared: %d lines became %d, %v", len(group), len(shared), ok)
		}
		for k, line := range group {
			keepsEnds(t, "ThinShared", line, shared[k])
		}
		smooth, ok := impl.SmoothLine(lines[i], int64(i%65))
		last := len(lines[i]) - 1
		if !ok || len(smooth) != last+1 || smooth[0] != lines[i][0] || smooth[last] != lines[i][last] {
			t.Errorf("SmoothLine: %s became %s, %v", tell(lines[i]), tell(smooth), ok)
		}
	}
}

// crossedPieces returns the pairs of pieces of a line that cross, as texts of their ends.
func crossedPieces(line []complex64) map[string]bool {
	pairs := map[string]bool{}
	for i := 1; i < len(line); i++ {
		for k := 1; k < i; k++ {
			if impl.PiecesCross(line[k-1], line[k], line[i-1], line[i]) {
				pairs[tell([]complex64{line[k-1], line[k], line[i-1], line[i]})] = true
			}
		}
	}
	return pairs
}

// Promise 5: safe lines have no new crossings: those that they have are crossings of the line before.
func TestSafeLinesHaveNoNewCrossings(t *testing.T) {
	safer := false
	lines := ordinaryLines()
	for seed := range 60 {
		lines = append(lines, tangle(9, seed+100), lattice(12, seed+100), wander(20, seed+100), wideLine(9, seed))
	}
	for _, line := range lines {
		before, had := crossedPieces(line), count(t, line)
		for _, limit := range limits() {
			safe, ok := impl.ThinSafely(line, limit)
			plain, also := impl.ThinByAreas(line, limit)
			if !ok || !also {
				t.Fatalf("%s is not made simpler for the limit %v", tell(line), limit)
			}
			for pair := range crossedPieces(safe) {
				if !before[pair] {
					t.Errorf("%s has the new crossing %s for the limit %v", tell(line), pair, limit)
				}
			}
			has := count(t, safe)
			if has > had {
				t.Errorf("%s has %d crossings, and %d for the limit %v", tell(line), had, has, limit)
			}
			safer = safer || count(t, plain) > had
		}
	}
	if !safer {
		t.Error("no line has new crossings without being safe")
	}
}

func count(t *testing.T, line []complex64) int64 {
	t.Helper()
	n, ok := impl.CrossingsOf(line, false)
	if !ok {
		t.Fatalf("the crossings of %s are not counted", tell(line))
	}
	return n
}

func TestSafeLinesPassOver(t *testing.T) {
	// The last piece comes up through the foot of the first bend, which is therefore not left out, although its area, 2, is the least one.
	bend := []complex64{0, 2 + 1i, 4, 4 - 8i, 2 - 8i, 2 + 0.5i}
	succeeds(t, "without safety", []complex64{0, 4, 4 - 8i, 2 - 8i, 2 + 0.5i})(impl.ThinByAreas(bend, 3))
	succeeds(t, "with safety", bend)(impl.ThinSafely(bend, 3))
	succeeds(t, "the next points", []complex64{0, 2 + 1i, 4 - 8i, 2 - 8i, 2 + 0.5i})(impl.ThinSafely(bend, 8.25))
	// Behind this spike, which has an area of 2.125, the bend is free.
	spike := append(bend, 1.5-16i)
	succeeds(t, "the spike alone", spike)(impl.ThinSafely(spike, 2.0625))
	succeeds(t, "the spike, and then the bend", []complex64{0, 4, 4 - 8i, 2 - 8i, 1.5 - 16i})(impl.ThinSafely(spike, 3))
	// A piece that only touches the foot crosses nothing.
	touch := []complex64{0, 2 + 1i, 4, 4 - 8i, 2 - 8i, 2}
	succeeds(t, "a piece that touches", []complex64{0, 4, 4 - 8i, 2 - 8i, 2})(impl.ThinSafely(touch, 3))
	// All the rest of a line counts, before and behind.
	succeeds(t, "a line turned around", turned(bend))(impl.ThinSafely(turned(bend), 3))
}

// Each point that ThinByHeights leaves out lies near the piece in whose place it was, and only what is farther is kept.
func TestThinnedByHeightsIsNear(t *testing.T) {
	for _, line := range ordinaryLines() {
		for _, near := range limits() {
			thin, _ := impl.ThinByHeights(line, near)
			expect(t, "ThinByHeights "+tell(line), tell(thin), tell(heightsByHand(line, near)))
		}
	}
}

// heightsByHand thins by marking points of the whole line, part by part from the first one on.
func heightsByHand(line []complex64, near float32) []complex64 {
	kept := make([]bool, len(line))
	kept[0], kept[len(line)-1] = true, true
	for from := 0; from < len(line)-1; {
		to := from + 1
		for !kept[to] {
			to++
		}
		split, most := 0, near
		for i := from + 1; i < to; i++ {
			if far, _ := impl.FarOfPiece(line[from], line[to], line[i]); far > most {
				split, most = i, far
			}
		}
		if split == 0 {
			from = to
		} else {
			kept[split] = true
		}
	}
	var thin []complex64
	for i, z := range line {
		if kept[i] {
			thin = append(thin, z)
		}
	}
	return thin
}

func TestThinByHeights(t *testing.T) {
	hill := []complex64{0, 1 + 1i, 2}
	tower := []complex64{0, 1 + 1i, 2 + 3i, 3 + 3i, 4}
	for _, c := range []struct {
		list []complex64
		near float32
		want []complex64
	}{
		{hill, 0.5, hill}, {hill, below(1), hill}, {hill, 1, []complex64{0, 2}}, {hill, minusZero(), hill}, {hill, largest(), []complex64{0, 2}},
		{[]complex64{0, 1, 2}, 0, []complex64{0, 2}}, {[]complex64{0, complex(1, num(1)), 2}, 0, []complex64{0, complex(1, num(1)), 2}},
		{[]complex64{0, complex(1, num(1)), 2}, num(1), []complex64{0, 2}},
		// The first one of two points that are equally far is kept, and then the other one is not far any more.
		{tower, 2, []complex64{0, 2 + 3i, 4}}, {tower, 0.5, []complex64{0, 2 + 3i, 3 + 3i, 4}}, {tower, 0, tower},
		// A line that ends where it begins has heights above a point, and there are none beside equal points.
		{[]complex64{0, 3, 3i, 0}, 2, []complex64{0, 3, 3i, 0}}, {[]complex64{0, 3, 3i, 0}, 3, []complex64{0, 0}},
		{[]complex64{0, 0, 2, 2, 2}, 0, []complex64{0, 2}}, {make([]complex64, 9), 0, []complex64{0, 0}},
		// Behind the ends of a piece, it is the ends that count.
		{[]complex64{0, 3, 2}, 0.5, []complex64{0, 3, 2}}, {[]complex64{0, 3, 2}, 1, []complex64{0, 2}}, {[]complex64{0, -3, 2}, 3, []complex64{0, 2}},
		{[]complex64{1, 2i}, 0, []complex64{1, 2i}}, {[]complex64{1, 1}, 9, []complex64{1, 1}},
	} {
		succeeds(t, fmt.Sprintf("ThinByHeights %s near %v", tell(c.list), c.near), c.want)(impl.ThinByHeights(c.list, c.near))
	}
	far := complex(largest(), largest())
	fails[[]complex64](t, "heights without numbers")(impl.ThinByHeights([]complex64{0, 1e20, far}, 1))
	succeeds(t, "two points without heights", []complex64{-far, far})(impl.ThinByHeights([]complex64{-far, far}, 0))
}

func TestThinByAreas(t *testing.T) {
	flat := []complex64{0, 1 + 0.125i, 2}
	for name, thin := range map[string]thinner{"ThinByAreas": impl.ThinByAreas, "ThinSafely": impl.ThinSafely} {
		for _, c := range []struct {
			list  []complex64
			limit float32
			want  []complex64
		}{
			{flat, 1, []complex64{0, 2}}, {flat, 0.125, flat}, {flat, above(0.125), []complex64{0, 2}}, {turned(flat), 0.125, turned(flat)}, {turned(flat), 0.2, []complex64{2, 0}},
			{[]complex64{0, 1, 2}, 0, []complex64{0, 1, 2}}, {[]complex64{0, 1, 2}, minusZero(), []complex64{0, 1, 2}}, {[]complex64{0, 1, 2}, num(1), []complex64{0, 2}},
			// Half of the least turn is rounded to nothing, which is less than the least number, but half of twice this turn is not.
			{[]complex64{0, 0x1p-74, 0x1p-75i}, num(1), []complex64{0, 0x1p-75i}}, {[]complex64{0, 0x1p-74, 0x1p-74i}, num(1), []complex64{0, 0x1p-74, 0x1p-74i}},
			// Of the areas 1/2, 1 and 1/2, the first one goes first, and makes the next one larger.
			{[]complex64{0, 1i, 1 + 1i, 1, 2}, 0.5, []complex64{0, 1i, 1 + 1i, 1, 2}},
			{[]complex64{0, 1i, 1 + 1i, 1 - 1i, 2 - 1i}, 0.75, []complex64{0, 1 + 1i, 1 - 1i, 2 - 1i}},
			{[]complex64{0, 1i, 1 + 1i, 1 - 1i, 2 - 1i}, 1, []complex64{0, 1 + 1i, 1 - 1i, 2 - 1i}},
			{[]complex64{0, 1i, 1 + 1i, 1 - 1i, 2 - 1i}, 1.25, []complex64{0, 2 - 1i}},
			{[]complex64{1, 2i}, largest(), []complex64{1, 2i}}, {[]complex64{1, 1}, 0, []complex64{1, 1}}, {[]complex64{1, 1, 1, 1}, num(1), []complex64{1, 1}}, {[]complex64{1, 1, 1, 1}, 0, []complex64{1, 1, 1, 1}},
			// Areas that are infinite are not less than any limit, and those that are not numbers are never the least ones.
			{[]complex64{0, 3e19, 3e19 + 3e19i}, largest(), []complex64{0, 3e19, 3e19 + 3e19i}},
			{[]complex64{0, 3e19 + 3e19i, 6e19 + 6e19i, 6e19, 7e19}, largest(), []complex64{0, 3e19 + 3e19i, 6e19 + 6e19i, 6e19, 7e19}},
			{[]complex64{0, 3e19 + 3e19i, 6e19 + 6e19i, 0, 1, 1i}, 1, []complex64{0, 3e19 + 3e19i, 6e19 + 6e19i, 0, 1i}},
		} {
			succeeds(t, fmt.Sprintf("%s %s with the limit %v", name, tell(c.list), c.limit), c.want)(thin(c.list, c.limit))
		}
	}
}

// What is left of a line has no area below the limit, and for a larger limit, no points come back.
func TestThinnedByAreasIsLarge(t *testing.T) {
	for _, line := range ordinaryLines() {
		whole := line
		for _, limit := range limits() {
			thin, _ := impl.ThinByAreas(line, limit)
			for i := 2; i < len(thin); i++ {
				area, ok := impl.AreaOfLoop([]complex64{0, thin[i-1] - thin[i-2], thin[i] - thin[i-2]})
				if !ok || float32(math.Abs(float64(area))) < limit {
					t.Errorf("%s has the area %v, %v for the limit %v", tell(thin), area, ok, limit)
				}
			}
			if !isPartOf(thin, whole) {
				t.Errorf("%s has more points for the limit %v than %s", tell(thin), limit, tell(whole))
			}
			whole = thin
		}
	}
}

func TestLimitsOfThinning(t *testing.T) {
	wrong := []float32{-num(1), -1, infinite(), -infinite(), num(0x7fc00000)}
	for _, limit := range wrong {
		for name, thin := range thinners() {
			fails[[]complex64](t, fmt.Sprintf("%s with %v", name, limit))(thin(zigzag(5), limit))
			fails[[]complex64](t, fmt.Sprintf("%s of two points with %v", name, limit))(thin(zigzag(2), limit))
		}
		fails[[][]complex64](t, fmt.Sprintf("ThinShared with %v", limit))(impl.ThinShared([][]complex64{zigzag(5)}, limit, 2))
		fails[[][]complex64](t, fmt.Sprintf("ThinShared of none with %v", limit))(impl.ThinShared(nil, limit, 2))
	}
}

// Any number of workers makes the same lines as one after another.
func TestAllWorkersMakeTheSameLines(t *testing.T) {
	lines := ordinaryLines()
	for _, n := range []int{0, 1, 2, 7, 8, 9, 15, 16} {
		group := lines[len(lines)-n:]
		for _, limit := range limits() {
			var want [][]complex64
			for _, line := range group {
				thin, _ := impl.ThinByAreas(line, limit)
				want = append(want, thin)
			}
			for workers := int64(1); workers <= impl.MaxWorkers; workers++ {
				succeeds(t, fmt.Sprintf("%d workers on %d lines", workers, n), want)(impl.ThinShared(group, limit, workers))
			}
		}
	}
	fails[[][]complex64](t, "17 lines")(impl.ThinShared(lines[:17], 1, 2))
	for _, workers := range []int64{0, -1, 9, 1 << 32, 1<<32 + 1, math.MaxInt64, math.MinInt64} {
		fails[[][]complex64](t, fmt.Sprintf("%d workers", workers))(impl.ThinShared(lines[:3], 1, workers))
		fails[[][]complex64](t, fmt.Sprintf("%d workers on no lines", workers))(impl.ThinShared(nil, 1, workers))
	}
}

// Workers of many calls at once do not disturb each other, and none is left behind.
func TestWorkersOnLinesAreJoined(t *testing.T) {
	lines := ordinaryLines()[20:36]
	want := said(impl.ThinShared(lines, 0.3, 1))
	leavesNone(t, 100, func(i int) {
		if got := said(impl.ThinShared(lines, 0.3, int64(i%8+1))); got != want {
			t.Errorf("call %d: got %s", i, got)
		}
	})
}
