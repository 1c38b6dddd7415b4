package tests

import (
	"fmt"
	"math"
	"slices"
	"testing"

	"loop.example/g01341/impl"
)

// pieces checks which pairs of numbers ContourPieces returns.
func pieces(t *testing.T, what string, g impl.Grid, at float32, want ...complex64) {
	t.Helper()
	succeeds(t, "the pieces of "+what, want)(impl.ContourPieces(g, at))
}

func TestContourPieces(t *testing.T) {
	slope := ground(2, 2, 0, 1, 0, 1)
	pieces(t, "a slope", slope, 0.5, 0.5, 0.5+0.5i, 0.5+0.5i, 0.5+1i)
	pieces(t, "a slope at a quarter", slope, 0.25, 0.25, 0.25+0.25i, 0.25+0.25i, 0.25+1i)
	pieces(t, "a slope at its upper end", slope, 1, 1, 1+1i, 1+1i, 1+1i)
	pieces(t, "a slope above its upper end", slope, above(1))
	pieces(t, "a slope at its lower end", slope, 0)
	pieces(t, "a slope above its lower end", slope, num(1), complex(num(1), 0), complex(num(1), num(1)), complex(num(1), num(1)), complex(num(1), 1))
	pieces(t, "a slope at a zero with a sign", slope, minusZero())
	pieces(t, "a slope upwards", ground(2, 2, 0, 0, 1, 1), 0.5, 1+0.5i, 0.5+0.5i, 0.5+0.5i, 0.5i)
	pieces(t, "a slope downwards", ground(2, 2, 1, 1, 0, 0), 0.25, 1+0.75i, 0.75+0.75i, 0.75+0.75i, 0.75i)
	pieces(t, "a first corner that is up", ground(2, 2, 4, 0, 0, 0), 1, 0.75, 0.75+0.75i, 0.75+0.75i, 0.75i)
	pieces(t, "a second corner that is up", ground(2, 2, 0, 4, 0, 0), 1, 0.25, 1+0.75i)
	pieces(t, "a third corner that is up", ground(2, 2, 0, 0, 0, 4), 1, 1+0.25i, 0.25+0.25i, 0.25+0.25i, 0.25+1i)
	pieces(t, "a fourth corner that is up", ground(2, 2, 0, 0, 4, 0), 1, 0.75+1i, 0.25i)
	pieces(t, "two corners that are up, across the cut", ground(2, 2, 0, 4, 4, 0), 1, 0.25, 1+0.75i, 0.75+1i, 0.25i)
	pieces(t, "two corners that are up, along the cut", ground(2, 2, 4, 0, 0, 4), 1, 0.75, 1+0.25i, 0.25+1i, 0.75i)
	pieces(t, "the last cell", ground(3, 3, 0, 0, 0, 0, 0, 0, 0, 0, 8), 2, 2+1.25i, 1.25+1.25i, 1.25+1.25i, 1.25+2i)
	pieces(t, "the far cell of a row", ground(3, 2, 0, 0, 8, 0, 0, 0), 2, 1.25, 2+0.75i)
	pieces(t, "the far cell of a column", ground(2, 3, 0, 0, 0, 0, 8, 0), 2, 0.75+2i, 1.25i)
	middle := ground(3, 3, 0, 0, 0, 0, 1, 0, 0, 0, 0)
	pieces(t, "a peak at its height", middle, 1, slices.Repeat([]complex64{1 + 1i}, 12)...)
	pieces(t, "a peak at its half", middle, 0.5, 1+0.5i, 0.5+0.5i, 0.5+0.5i, 0.5+1i, 1.5+1i, 1+0.5i, 0.5+1i, 1+1.5i, 1.5+1i, 1.5+1.5i, 1.5+1.5i, 1+1.5i)
	for _, height := range []float32{0, minusZero(), 7, largest()} {
		pieces(t, "a flat grid at its height", level(16, 16, height), height)
		pieces(t, "a flat grid above its height", level(16, 16, height), -height-1)
		pieces(t, "a flat grid below its height", level(16, 16, height), largest())
	}
	// Heights that are far apart overflow, but the quotient is a number if just one of both does.
	cliff := ground(2, 2, -largest(), largest(), -largest(), largest())
	pieces(t, "a cliff", cliff, 0, 0, 0, 0, 1i)
	pieces(t, "a cliff next to its lower end", cliff, -largest()/2, 0, 0, 0, 1i)
	fails[[]complex64](t, "the pieces of a cliff at its upper end")(impl.ContourPieces(cliff, largest()))
	fails[[][]complex64](t, "the lines of a cliff at its upper end")(impl.ContourLines(cliff, largest()))
	tiny := ground(2, 2, 0, num(2), 0, num(2))
	pieces(t, "a subnormal slope", tiny, num(1), 0.5, 0.5+0.5i, 0.5+0.5i, 0.5+1i)
}

// Each piece of a level lies in its cell, where the height is that level, nearly.
func TestContourPiecesAreLevel(t *testing.T) {
	for n, g := range someGrids() {
		for _, at := range []float32{0, 1, 2.5, 3, 6.75} {
			points, ok := impl.ContourPieces(g, at)
			if !ok || len(points)%2 != 0 {
				t.Fatalf("the pieces of grid %d at %v are %v, %v", n, at, points, ok)
			}
			for i := 0; i < len(points); i += 2 {
				for _, z := range points[i : i+2] {
					x, y := float64(real(z)), float64(imag(z))
					onSide := x == math.Floor(x) || y == math.Floor(y) || math.Abs((x-math.Floor(x))-(y-math.Floor(y))) < 1e-5
					height, ok := impl.HeightAt(g, z)
					onEdge := x == math.Floor(x) || y == math.Floor(y)
					if !onSide || !ok || onEdge && math.Abs(float64(height-at)) > 1e-4 {
						t.Errorf("grid %d at %v has a piece at %v, where the height is %v, %v", n, at, z, height, ok)
					}
				}
			}
		}
	}
}

func TestContourLines(t *testing.T) {
	lines := func(what string, g impl.Grid, at float32, want ...[]complex64) {
		t.Helper()
		succeeds(t, "the lines of "+what, want)(impl.ContourLines(g, at))
	}
	lines("a slope", ground(2, 2, 0, 1, 0, 1), 0.5, []complex64{0.5, 0.5 + 0.5i, 0.5 + 1i})
	lines("a slope upwards", ground(2, 2, 0, 0, 1, 1), 0.5, []complex64{1 + 0.5i, 0.5 + 0.5i, 0.5i})
	lines("a slope at its upper end", ground(2, 2, 0, 1, 0, 1), 1, []complex64{1, 1 + 1i})
	lines("two corners", ground(2, 2, 4, 0, 0, 4), 1, []complex64{0.75, 1 + 0.25i}, []complex64{0.25 + 1i, 0.75i})
	middle := ground(3, 3, 0, 0, 0, 0, 1, 0, 0, 0, 0)
	lines("a peak at its height", middle, 1)
	// The piece that is joined last is put at one end, so that the ring ends where it begins.
	lines("a peak at its half", middle, 0.5, []complex64{1.5 + 1.5i, 1.5 + 1i, 1 + 0.5i, 0.5 + 0.5i, 0.5 + 1i, 1 + 1.5i, 1.5 + 1.5i})
	for _, height := range []float32{0, minusZero(), 7, largest()} {
		lines("a flat grid", level(16, 16, height), height)
		lines("a flat grid above its height", level(3, 3, height), largest())
	}
	// There may be more lines than MaxLines, and lines of more than MaxPoints points.
	spots := level(16, 16, 0)
	for i := range spots.Heights {
		if i%2 == 1 && i/16%2 == 1 {
			spots.Heights[i] = 1
		}
	}
	got, ok := impl.ContourLines(spots, 0.5)
	if !ok || len(got) != 64 || impl.AreLines(got) {
		t.Errorf("a grid with 64 spots has %d lines, %v", len(got), ok)
	}
	got, ok = impl.ContourLines(snake(), 0.5)
	if !ok || len(got) != 1 || len(got[0]) <= 2*impl.MaxPoints || got[0][0] != got[0][len(got[0])-1] {
		t.Errorf("a snake has %d lines, %v", len(got), ok)
	}
	for _, g := range wrongGrids() {
		fails[[]complex64](t, "the pieces of a wrong grid")(impl.ContourPieces(g, 1))
		fails[[][]complex64](t, "the lines of a wrong grid")(impl.ContourLines(g, 1))
	}
	for _, x := range wrongNumbers() {
		fails[[]complex64](t, fmt.Sprint("the pieces at ", x))(impl.ContourPieces(middle, x))
		fails[[][]complex64](t, fmt.Sprint("the lines at ", x))(impl.ContourLines(middle, x))
	}
}

// snake returns a grid with a ridge that winds from row to row, and has one long line around it.
func snake() impl.Grid {
	g := level(16, 16, 0)
	for y := int64(1); y < 14; y++ {
		for x := int64(1); x < 15; x++ {
			if y%2 == 1 || x == 14 && y%4 == 2 || x == 1 && y%4 == 0 {
				g.Heights[16*y+x] = 1
			}
		}
	}
	return g
}

// What ContourLines joins are the pieces of ContourPieces that are not points, each of them once.
func TestContourLinesHaveAllPieces(t *testing.T) {
	for n, g := range someGrids() {
		for _, at := range []float32{0, 1, 2.5, 3, 6.75} {
			points, _ := impl.ContourPieces(g, at)
			lines, ok := impl.ContourLines(g, at)
			var want, got []string
			for i := 0; i < len(points); i += 2 {
				if points[i] != points[i+1] {
					want = append(want, sideOf(points[i], points[i+1]))
				}
			}
			ends := map[string]int{}
			for k, line := range lines {
				for i, z := range line[1:] {
					got = append(got, sideOf(line[i], z))
				}
				if line[0] == line[len(line)-1] {
					continue
				}
				for _, end := range []complex64{line[0], line[len(line)-1]} {
					if other, ok := ends[tell(end)]; ok && other != k {
						t.Errorf("grid %d at %v: the lines %d and %d are not joined", n, at, other, k)
					}
					ends[tell(end)] = k
				}
			}
			slices.Sort(want)
			slices.Sort(got)
			if !ok || !slices.Equal(got, want) {
				t.Errorf("grid %d at %v has the pieces %v, but lines of %v, %v", n, at, want, got, ok)
			}
		}
	}
}

// sideOf tells a piece, the same in both directions.
func sideOf(a, b complex64) string {
	ends := []string{tell(a), tell(b)}
	slices.Sort(ends)
	return ends[0] + " " + ends[1]
}

// With few lines, ContourLines does what JoinLines does.
func TestContourLinesAreJoinedLines(t *testing.T) {
	joined := 0
	for seed := range 300 {
		g := hills(int64(2+seed%4), int64(2+seed%3), seed)
		points, _ := impl.ContourPieces(g, 3)
		var pairs [][]complex64
		for i := 0; i < len(points); i += 2 {
			if points[i] != points[i+1] {
				pairs = append(pairs, points[i:i+2])
			}
		}
		if want, ok := impl.JoinLines(pairs); ok {
			joined++
			succeeds(t, fmt.Sprint("the lines of grid ", seed), want)(impl.ContourLines(g, 3))
		}
	}
	if joined < 200 {
		t.Errorf("only %d grids have few lines", joined)
	}
}

func TestProfileOf(t *testing.T) {
	g := ground(3, 2, 0, 4, 2, 10, 14, 12)
	profile := func(what string, a, b complex64, count int64, want ...float32) {
		t.Helper()
		succeeds(t, "the profile "+what, want)(impl.ProfileOf(g, a, b, count))
	}
	profile("along a row", 0, 2, 5, 0, 2, 4, 3, 2)
	profile("back", 2, 0, 5, 2, 3, 4, 2, 0)
	profile("of both ends", 0, 2, 2, 0, 2)
	profile("upwards", 1, 1+1i, 3, 4, 9, 14)
	profile("across", 0, 2+1i, 3, 0, 9, 12)
	profile("at one place", 1+1i, 1+1i, 4, 14, 14, 14, 14)
	profile("at a zero with a sign", complex(minusZero(), 0), 1, 2, 0, 4)
	for _, count := range []int64{2, 3, 63, 64} {
		got, ok := impl.ProfileOf(g, 0, 2, count)
		if !ok || int64(len(got)) != count || got[count-1] != 2 {
			t.Errorf("the profile of %d heights is %v, %v", count, got, ok)
		}
		for k, height := range got {
			at, _ := impl.HeightAt(g, complex(2*(float32(k)/float32(count-1)), 0))
			expect(t, fmt.Sprintf("height %d of %d", k, count), height, at)
		}
	}
	for _, count := range []int64{1, 65, 0, -1, -2, 1 << 32, 1<<32 + 2, math.MaxInt64, math.MinInt64} {
		fails[[]float32](t, fmt.Sprint("a profile of ", count))(impl.ProfileOf(g, 0, 2, count))
	}
	outside := []complex64{complex(above(2), 0), complex(0, above(1)), complex(-num(1), 0), complex(0, -num(1)), complex(largest(), 0), complex(0, -largest())}
	for _, z := range append(outside, wrongPoints()...) {
		fails[[]float32](t, fmt.Sprint("a profile from ", z))(impl.ProfileOf(g, z, 0, 3))
		fails[[]float32](t, fmt.Sprint("a profile to ", z))(impl.ProfileOf(g, 0, z, 3))
		fails[[]float32](t, fmt.Sprint("a profile at ", z))(impl.ProfileOf(g, z, z, 2))
	}
	for _, g := range wrongGrids() {
		fails[[]float32](t, "a profile of a wrong grid")(impl.ProfileOf(g, 0, 1, 3))
	}
}

func TestDropOf(t *testing.T) {
	drop := func(far, bend, want float32) {
		t.Helper()
		succeeds(t, fmt.Sprintf("DropOf %v, %v", far, bend), want)(impl.DropOf(far, bend))
	}
	drop(2, 0.5, 1)
	drop(2, 0, 2)
	drop(2, 1, 0)
	drop(0, 0, 0)
	drop(minusZero(), 0.5, 0)
	drop(3, minusZero(), 4.5)
	drop(3, num(1), 4.5)
	drop(4, below(1), float32(math.Ldexp(1, -21)))
	drop(num(0x3f800001), 0, num(0x3f000002))
	drop(1e-23, 0, 0)
	drop(1.5e19, 0, float32(1.5e19)*float32(1.5e19)/2)
	drop(num(1), 1, 0)
	// The products go from left to right, so that the square overflows even if little of it is left.
	for _, bend := range []float32{0, 0.5, below(1), 1} {
		fails[float32](t, fmt.Sprint("DropOf far away with ", bend))(impl.DropOf(2e19, bend))
		fails[float32](t, fmt.Sprint("DropOf as far as can be with ", bend))(impl.DropOf(largest(), bend))
	}
	for _, far := range append(wrongNumbers(), -num(1), -1, -largest()) {
		fails[float32](t, fmt.Sprint("DropOf ", far))(impl.DropOf(far, 0))
		fails[float32](t, fmt.Sprint("DropOf ", far))(impl.DropOf(far, 1))
	}
	for _, bend := range append(wrongNumbers(), -num(1), above(1), -1, 2, largest()) {
		fails[float32](t, fmt.Sprint("DropOf with ", bend))(impl.DropOf(2, bend))
		fails[float32](t, fmt.Sprint("DropOf of nothing with ", bend))(impl.DropOf(0, bend))
	}
}

func TestSeesPlace(t *testing.T) {
	sees := func(what string, want bool, g impl.Grid, from, to int64, eye, bend float32, steps int64) {
		t.Helper()
		succeeds(t, what, want)(impl.SeesPlace(g, from, to, eye, bend, steps))
	}
	wall := ground(5, 2, 0, 0, 3, 0, 0, 0, 0, 0, 0, 0)
	sees("a place behind a wall", false, wall, 0, 4, 0, 1, 4)
	sees("a place behind a wall, the other way round", false, wall, 4, 0, 0, 1, 4)
	sees("a place before a wall", true, wall, 0, 1, 0, 1, 4)
	sees("a wall", true, wall, 0, 2, 0, 1, 4)
	sees("a place beside a wall", true, wall, 5, 9, 0, 1, 4)
	sees("over a wall from its height", false, wall, 0, 4, 3, 1, 4)
	sees("over a wall that the line of sight touches", true, wall, 0, 4, 6, 1, 4)
	sees("not quite over a wall", false, wall, 0, 4, below(6), 1, 4)
	sees("a place behind a wall that no step meets", true, wall, 0, 4, 0, 1, 1)
	sees("a place behind a wall whose side a step meets", false, wall, 0, 4, 0, 1, 3)
	sees("from a wall", true, wall, 2, 4, 0, 1, 4)
	sees("along a flat grid", true, level(16, 2, 1), 0, 15, 0, 1, 64)
	sees("along a flat ball", false, level(16, 2, 1), 0, 15, 0, 0, 2)
	sees("along a flat ball with one step", true, level(16, 2, 1), 0, 15, 0, 0, 1)
	sees("a place itself", true, wall, 2, 2, 0, 0, 64)
	sees("a place itself from above", true, wall, 2, 2, 5, 0.5, 7)
	// The ground drops by 2 in the middle, and by 8 at the end: just as much as an eye 8 above the ground needs.
	flat := level(5, 2, 0)
	sees("over the horizon", false, flat, 0, 4, 3, 0, 2)
	sees("up to the horizon", true, flat, 0, 4, 4, 0, 2)
	sees("not quite up to the horizon", false, flat, 0, 4, below(4), 0, 2)
	sees("up to the horizon that bent light reaches", true, flat, 0, 4, 2, 0.5, 2)
	sees("not quite up to it", false, flat, 0, 4, below(2), 0.5, 2)
	sees("across", true, ground(3, 3, 0, 9, 9, 9, 0, 9, 9, 9, 0), 0, 8, 0, 1, 2)
	sees("across between walls", false, ground(3, 3, 0, 9, 9, 9, 0, 9, 9, 9, 0), 0, 8, 0, 1, 3)
	sees("the example", true, ground(3, 3, 0, 0, 0, 0, 0, 0, 0, 0, 0), 0, 8, 0, 1, 2)
	for _, eye := range []float32{minusZero(), num(1), 1, 1e30} {
		sees(fmt.Sprint("from ", eye), true, level(3, 3, 0), 0, 8, eye, 1, 5)
	}
	for _, bend := range []float32{0, minusZero(), num(1), below(1), 1} {
		sees(fmt.Sprint("with ", bend), true, level(3, 3, 0), 0, 1, 5, bend, 5)
	}
	for _, steps := range []int64{1, 2, 63, 64} {
		sees(fmt.Sprint("in ", steps), true, level(3, 3, 0), 0, 1, 5, 0, steps)
	}
}

func TestSeesPlaceFails(t *testing.T) {
	g := hills(4, 3, 2)
	not := func(what string, g impl.Grid, from, to int64, eye, bend float32, steps int64) {
		t.Helper()
		fails[bool](t, what)(impl.SeesPlace(g, from, to, eye, bend, steps))
		fails[[]bool](t, what+", all places")(impl.SeenFrom(g, from, eye, bend, steps))
	}
	for _, i := range wrongIndices(g) {
		not(fmt.Sprint("from ", i), g, i, 1, 1, 0, 5)
		fails[bool](t, fmt.Sprint("to ", i))(impl.SeesPlace(g, 1, i, 1, 0, 5))
		fails[bool](t, fmt.Sprint("from and to ", i))(impl.SeesPlace(g, i, i, 1, 0, 1))
	}
	for _, eye := range append(wrongNumbers(), -num(1), -1, -largest()) {
		not(fmt.Sprint("an eye at ", eye), g, 0, 1, eye, 0, 5)
		not(fmt.Sprint("one step from an eye at ", eye), g, 0, 0, eye, 0, 1)
	}
	for _, bend := range append(wrongNumbers(), -num(1), above(1), -1, 2) {
		not(fmt.Sprint("light bent by ", bend), g, 0, 1, 1, bend, 5)
		not(fmt.Sprint("one step of light bent by ", bend), g, 0, 0, 1, bend, 1)
	}
	for _, steps := range []int64{0, 65, -1, 1 << 32, 1<<32 + 1, math.MaxInt64, math.MinInt64} {
		not(fmt.Sprint(steps, " steps"), g, 0, 1, 1, 0, steps)
		not(fmt.Sprint(steps, " steps to itself"), g, 1, 1, 1, 0, steps)
	}
	for _, g := range wrongGrids() {
		not("a wrong grid", g, 0, 0, 1, 0, 1)
		not("a wrong grid", g, 0, 1, 1, 0, 5)
	}
	// The height of the eye overflows.
	high := level(2, 2, largest())
	not("too high an eye", high, 0, 1, largest(), 1, 5)
	not("too high an eye, with one step", high, 0, 1, largest(), 1, 1)
	succeeds(t, "a very high eye", true)(impl.SeesPlace(high, 0, 1, largest()/float32(1<<30), 1, 5))
	// The line of sight falls by more than the largest number, which does not matter with one step, since it is not told then.
	cliff := ground(3, 2, largest(), -largest(), -largest(), 0, 0, 0)
	fails[bool](t, "a line of sight that falls too far")(impl.SeesPlace(cliff, 0, 2, 0, 1, 2))
	fails[bool](t, "a line of sight that rises too far")(impl.SeesPlace(cliff, 2, 0, 0, 1, 2))
	succeeds(t, "a line of sight that falls too far, with one step", true)(impl.SeesPlace(cliff, 0, 2, 0, 1, 1))
	succeeds(t, "a line of sight that falls less far", true)(impl.SeesPlace(cliff, 0, 5, 0, 1, 2))
	fails[[]bool](t, "all places from a cliff")(impl.SeenFrom(cliff, 0, 0, 1, 2))
	succeeds(t, "all places from a cliff, with one step", slices.Repeat([]bool{true}, 6))(impl.SeenFrom(cliff, 0, 0, 1, 1))
	succeeds(t, "all places from below the cliff", []bool{true, true, true, true, true, true})(impl.SeenFrom(cliff, 4, 0, 1, 2))
}

func TestSeenFrom(t *testing.T) {
	wall := ground(5, 2, 0, 0, 3, 0, 0, 0, 0, 0, 0, 0)
	succeeds(t, "SeenFrom beside a wall", []bool{true, true, true, false, false, true, true, true, false, false})(impl.SeenFrom(wall, 0, 0, 1, 2))
	for n, g := range append(someGrids(), oddGrids()...) {
		from := int64(n*7) % int64(len(g.Heights))
		eye, bend, steps := float32(n%5)/2, float32(n%3)/2, int64(n%13+1)
		want, all := make([]bool, len(g.Heights)), true
		for i := range want {
			sees, ok := impl.SeesPlace(g, from, int64(i), eye, bend, steps)
			want[i], all = sees, all && ok
		}
		what := fmt.Sprintf("SeenFrom %d of grid %d", from, n)
		if all {
			succeeds(t, what, want)(impl.SeenFrom(g, from, eye, bend, steps))
		} else {
			fails[[]bool](t, what)(impl.SeenFrom(g, from, eye, bend, steps))
		}
	}
}
