package tests

import (
	"fmt"
	"testing"

	"loop.example/g01341/impl"
)

func TestWhatLinesAre(t *testing.T) {
	for _, line := range [][]complex64{{0, 0}, {0, 1}, zigzag(3), zigzag(128), wideLine(128, 1), {complex(minusZero(), num(1)), complex(largest(), -largest())}} {
		if !impl.IsLine(line) || !impl.AreLines([][]complex64{line}) {
			t.Errorf("%s is no line", tell(line))
		}
	}
	for _, line := range wrongLines() {
		if impl.IsLine(line) || impl.AreLines([][]complex64{line}) || impl.AreLines([][]complex64{{0, 1}, line}) {
			t.Errorf("%d points, %s, are a line", len(line), tell(line))
		}
	}
}

func TestHowManyLinesThereAre(t *testing.T) {
	var lines [][]complex64
	for n := range 20 {
		if got := impl.AreLines(lines); got != (n <= 16) {
			t.Errorf("AreLines of %d lines: got %v", n, got)
		}
		lines = append(lines, zigzag(2+n))
	}
}

func TestLinesThatAreNone(t *testing.T) {
	for _, line := range wrongLines() {
		what := tell(line[:min(len(line), 5)])
		fails[int64](t, "CrossingsOf "+what)(impl.CrossingsOf(line, false))
		fails[int64](t, "CrossingsOf closed "+what)(impl.CrossingsOf(line, true))
		fails[float32](t, "LongOfLine "+what)(impl.LongOfLine(line))
		fails[float32](t, "FarOfLine "+what)(impl.FarOfLine(line, 1))
		expect(t, "BoxOfLine "+what, saidTwo(impl.BoxOfLine(line)), "fails")
		fails[[]complex64](t, "ThinByHeights "+what)(impl.ThinByHeights(line, 1))
		fails[[]complex64](t, "ThinByAreas "+what)(impl.ThinByAreas(line, 1))
		fails[[]complex64](t, "ThinSafely "+what)(impl.ThinSafely(line, 1))
		fails[[][]complex64](t, "ThinShared "+what)(impl.ThinShared([][]complex64{zigzag(3), line}, 1, 2))
		fails[[]complex64](t, "SmoothLine "+what)(impl.SmoothLine(line, 1))
		fails[[]complex64](t, "SmoothLine 0 times "+what)(impl.SmoothLine(line, 0))
		fails[[][]complex64](t, "ClipLine "+what)(impl.ClipLine(line, -1-1i, 1+1i))
		fails[[][]complex64](t, "JoinLines "+what)(impl.JoinLines([][]complex64{line, {0, 1}}))
	}
	for _, z := range wrongPoints() {
		fails[float32](t, "FarOfLine from "+tell(z))(impl.FarOfLine(zigzag(4), z))
		fails[float32](t, "FarOfPiece from "+tell(z))(impl.FarOfPiece(0, 1, z))
		fails[float32](t, "FarOfPiece begun at "+tell(z))(impl.FarOfPiece(z, 1, 0))
		fails[float32](t, "FarOfPiece ended at "+tell(z))(impl.FarOfPiece(0, z, 0))
	}
}

// eachOrder calls check with two pieces in all orders of their ends and of each other.
func eachOrder(a, b, c, d complex64, check func(a, b, c, d complex64)) {
	for _, p := range [][4]complex64{{a, b, c, d}, {b, a, c, d}, {a, b, d, c}, {b, a, d, c}} {
		check(p[0], p[1], p[2], p[3])
		check(p[2], p[3], p[0], p[1])
	}
}

func TestPiecesThatCross(t *testing.T) {
	for _, p := range [][4]complex64{
		{0, 2 + 2i, 2, 2i}, {-1, 1, -1i, 1i}, {0, 4, 1 - 1i, 1 + 7i}, {0, 1e10, 1 - 1i, 1 + 1i},
		{0, complex(0, 1e-18), complex(-1e-18, 5e-19), complex(1e-18, 5e-19)}, {0, 3 + 1i, 1, 2 + 1i},
		{complex(-largest(), 0), complex(largest(), 0), complex(0, -largest()), complex(0, largest())},
	} {
		eachOrder(p[0], p[1], p[2], p[3], func(a, b, c, d complex64) {
			if !impl.PiecesCross(a, b, c, d) {
				t.Errorf("%v to %v and %v to %v do not cross", a, b, c, d)
			}
		})
	}
}

// Pieces that meet at an end, or lie on one another, do not cross, and neither do those that are only points, or whose turns vanish or are not numbers.
func TestPiecesThatDoNotCross(t *testing.T) {
	none := num(0x7fc00000)
	for _, p := range [][4]complex64{
		{0, 1, 1i, 1 + 1i}, {0, 1, 2 - 1i, 2 + 1i}, {0, 1, 3, 4}, {0, 1, 1, 1 + 1i}, {0, 2, 1, 1 + 1i}, {0, 2, 1, 1 - 1i}, {0, 2, 0, 1 + 1i},
		{0, 2, 0, 2}, {0, 2, 1, 3}, {0, 3, 1, 2}, {0, 2, 0, 1}, {1, 1, 0, 2}, {1, 1, 1, 1}, {0, 0, -1, 1i}, {complex(0, minusZero()), 2, 1, 1 + 1i},
		{0, complex(num(2), 0), complex(num(1), -num(1)), complex(num(1), num(1))},
		{complex(-largest(), -largest()), complex(largest(), largest()), complex(largest(), -largest()), complex(-largest(), largest())},
		{0, 2 + 2i, 2, complex(none, 2)}, {0, complex(2, infinite()), 2, 2i}, {complex(-infinite(), 0), 2, 1 - 1i, 1 + 1i},
	} {
		eachOrder(p[0], p[1], p[2], p[3], func(a, b, c, d complex64) {
			if impl.PiecesCross(a, b, c, d) {
				t.Errorf("%v to %v and %v to %v cross", a, b, c, d)
			}
		})
	}
}

func TestCrossings(t *testing.T) {
	knot := []complex64{0, 4, 4 + 4i, 2 - 2i, 0 + 4i}
	for _, c := range []struct {
		list         []complex64
		open, closed int64
	}{
		{square(0, 4), 0, 0}, {[]complex64{0, 2 + 2i, 2, 2i}, 1, 1}, {[]complex64{0, 1 + 1i, 2 + 2i}, 0, 0},
		{[]complex64{0, 3, 3 + 1i, 1 - 1i, 2 + 2i}, 2, 2}, {knot, 2, 2}, {turned(knot), 2, 2},
		{[]complex64{0, 2i, 2 + 1i, -1 + 1i}, 1, 1}, {[]complex64{1 + 1i, 0, 2, 1 - 1i}, 0, 1},
		// The loop of two triangles that touch in a point, once with it as a point of both, and once with it inside of a piece.
		{[]complex64{0, 1 + 1i, 2, 2 + 2i, 1 + 1i, 2i}, 0, 0}, {[]complex64{0, 2, 2 + 2i, 1, 2i}, 0, 0},
		// Each of the pieces there and back lies on another one.
		{[]complex64{0, 4, 0, 4}, 0, 0}, {[]complex64{0, 4, 4, 2, 2 - 1i, 2 + 1i}, 1, 1}, {make([]complex64, 128), 0, 0},
	} {
		succeeds(t, fmt.Sprintf("CrossingsOf %v", c.list), c.open)(impl.CrossingsOf(c.list, false))
		succeeds(t, fmt.Sprintf("CrossingsOf closed %v", c.list), c.closed)(impl.CrossingsOf(c.list, true))
	}
	succeeds(t, "CrossingsOf two points", int64(0))(impl.CrossingsOf([]complex64{0, 1}, false))
	fails[int64](t, "CrossingsOf two points, closed")(impl.CrossingsOf([]complex64{0, 1}, true))
}

// A star whose each piece crosses all others that it has no end in common with has as many crossings as there can be.
func TestCrossingsOfStars(t *testing.T) {
	for _, n := range []int{3, 5, 7, 31, 127} {
		star := make([]complex64, n)
		for i := range star {
			star[i] = impl.PhasorOf(float64(i*(n/2)%n) / float64(n))
		}
		succeeds(t, fmt.Sprintf("CrossingsOf a star of %d", n), int64(n*(n-3)/2))(impl.CrossingsOf(star, true))
	}
}

func TestLongsOfLines(t *testing.T) {
	for _, c := range []struct {
		list []complex64
		want float32
	}{
		{[]complex64{0, 3 + 4i}, 5}, {[]complex64{0, 3, 3 + 4i}, 7}, {[]complex64{1, 1}, 0}, {[]complex64{0, 1, 0, 1}, 3}, {square(1+1i, 2), 6},
		{[]complex64{0, complex(num(3), num(4))}, num(5)}, {[]complex64{0, complex(minusZero(), 0)}, 0}, {[]complex64{0, 0, 1e10, 1e10, 1e10 + 1i}, 1e10},
		{[]complex64{0, complex(1.2e38, 1.6e38)}, 2e38}, {make([]complex64, 128), 0},
	} {
		succeeds(t, "LongOfLine "+tell(c.list), c.want)(impl.LongOfLine(c.list))
		succeeds(t, "LongOfLine turned around "+tell(c.list), c.want)(impl.LongOfLine(turned(c.list)))
	}
	fails[float32](t, "a piece longer than all numbers")(impl.LongOfLine([]complex64{complex(-largest(), 0), complex(largest(), 0)}))
	fails[float32](t, "a piece whose parts are numbers")(impl.LongOfLine([]complex64{0, complex(3e38, 3e38)}))
	fails[float32](t, "a sum larger than all numbers")(impl.LongOfLine([]complex64{0, 3e38, 0}))
}

func TestFarsOfPieces(t *testing.T) {
	for _, c := range []struct {
		a, b, z complex64
		want    float32
	}{
		{0, 4, 2 + 3i, 3}, {0, 4, 7 + 4i, 5}, {0, 4, -3 - 4i, 5}, {0, 4, 4 + 1i, 1}, {0, 4, 0 - 1i, 1}, {0, 4, 1, 0}, {0, 4, 0, 0}, {0, 4, 4, 0},
		{1 + 1i, 1 + 1i, 4 + 5i, 5}, {1 + 1i, 1 + 1i, 1 + 1i, 0}, {0, 4i, 3 + 2i, 3}, {0, 2 + 2i, 2, 1.4142135},
		// A piece so short that its power is no number but 0 is like a point.
		{0, complex(1e-30, 0), complex(1e-30, 0), 1e-30}, {0, complex(num(1), 0), 3 + 4i, 5}, {0, complex(1e-19, 0), complex(5e-20, 1e-19), 1e-19},
		{0, 1e19, complex(5e18, 3), 3}, {complex(minusZero(), 0), 4, complex(2, minusZero()), 0},
		// Across, nothing of z leads along a piece whose power is infinite.
		{0, 2e19, 3i, 3},
	} {
		what := fmt.Sprintf("FarOfPiece %v, %v from %v", c.a, c.b, c.z)
		succeeds(t, what, c.want)(impl.FarOfPiece(c.a, c.b, c.z))
	}
	wide := complex(-largest(), 0)
	fails[float32](t, "a piece without a finite length")(impl.FarOfPiece(wide, -wide, 1))
	fails[float32](t, "a power that is infinite, and so is the way along it")(impl.FarOfPiece(0, 2e19, 2e19))
	fails[float32](t, "a point too far away")(impl.FarOfPiece(wide, wide, -wide))
}

func TestFarsOfLines(t *testing.T) {
	corner := []complex64{0, 4, 4 + 4i}
	for _, c := range []struct {
		list []complex64
		z    complex64
		want float32
	}{
		{corner, 2 + 1i, 1}, {corner, 3 + 2i, 1}, {corner, 4, 0}, {corner, 4i, 4}, {corner, 7 - 4i, 5}, {corner, 4 + 9i, 5},
		{[]complex64{0, 2}, 1 + 3i, 3}, {[]complex64{1, 1}, 1 + 2i, 2}, {[]complex64{0, 0, 0, 3}, 3 + 1i, 1},
		// The piece that would close a line is none of it.
		{square(0, 4), complex(0, 2), 2},
	} {
		succeeds(t, fmt.Sprintf("FarOfLine %v from %v", c.list, c.z), c.want)(impl.FarOfLine(c.list, c.z))
		succeeds(t, fmt.Sprintf("FarOfLine %v from %v", turned(c.list), c.z), c.want)(impl.FarOfLine(turned(c.list), c.z))
	}
	fails[float32](t, "a line with one piece that is too long")(impl.FarOfLine([]complex64{0, 1, complex(largest(), 0)}, 5))
	for seed := range 20 {
		line, z := tangle(12, seed), tangle(1, seed+90)[0]
		want := infinite()
		for i := range line[1:] {
			far, _ := impl.FarOfPiece(line[i], line[i+1], z)
			want = min(want, far)
		}
		succeeds(t, fmt.Sprintf("FarOfLine of tangle %d", seed), want)(impl.FarOfLine(line, z))
	}
}

func TestBoxesOfLines(t *testing.T) {
	minus := minusZero()
	for _, c := range []struct {
		list      []complex64
		low, high complex64
	}{
		{[]complex64{0, 2 + 2i, 2, 2i}, 0, 2 + 2i}, {[]complex64{1 - 2i, -3 + 5i}, -3 - 2i, 1 + 5i}, {[]complex64{7, 7}, 7, 7},
		{[]complex64{1, 5, 3, -4i, 2i}, -4i, 5 + 2i}, {[]complex64{complex(largest(), 0), complex(-largest(), num(1))}, complex(-largest(), 0), complex(largest(), num(1))},
		// Zeros are equal: the first one of them counts.
		{[]complex64{complex(0, minus), complex(minus, 0)}, complex(0, minus), complex(0, minus)},
		{[]complex64{complex(minus, 0), complex(0, minus)}, complex(minus, 0), complex(minus, 0)},
		{[]complex64{complex(-1, 1), complex(minus, 0), complex(0, minus)}, -1, complex(minus, 1)},
		{[]complex64{complex(1, -1), complex(minus, minus), complex(0, 0)}, complex(minus, -1), complex(1, minus)},
	} {
		expect(t, "BoxOfLine "+tell(c.list), saidTwo(impl.BoxOfLine(c.list)), words(true, c.low, c.high))
	}
}

func TestSmoothLines(t *testing.T) {
	for _, c := range []struct {
		list  []complex64
		times int64
		want  []complex64
	}{
		{[]complex64{0, 4i, 0}, 1, []complex64{0, 2i, 0}}, {[]complex64{0, 4i, 0}, 2, []complex64{0, 1i, 0}},
		{[]complex64{0, 4i, 0}, 0, []complex64{0, 4i, 0}}, {[]complex64{1, 2i}, 64, []complex64{1, 2i}}, {[]complex64{3, 3}, 0, []complex64{3, 3}},
		// All points are told with the old ones.
		{[]complex64{0, 4, 8i, 12}, 1, []complex64{0, 2 + 2i, 4 + 4i, 12}}, {[]complex64{0, 0, 0, 16, 16}, 2, []complex64{0, 1, 5, 11, 16}},
		{[]complex64{0, complex(num(1), num(2)), 0}, 1, []complex64{0, complex(0, num(1)), 0}},
		// Three zeros with a sign have a sum with one.
		{[]complex64{complex(minusZero(), 0), complex(minusZero(), minusZero()), complex(minusZero(), minusZero())}, 1, []complex64{complex(minusZero(), 0), complex(minusZero(), 0), complex(minusZero(), minusZero())}},
	} {
		succeeds(t, fmt.Sprintf("SmoothLine %s %d times", tell(c.list), c.times), c.want)(impl.SmoothLine(c.list, c.times))
	}
	for _, times := range []int64{-1, 65, 1 << 32, 1<<63 - 1, -1 << 63} {
		fails[[]complex64](t, fmt.Sprintf("SmoothLine %d times", times))(impl.SmoothLine(zigzag(5), times))
	}
	fails[[]complex64](t, "SmoothLine with a sum larger than all numbers")(impl.SmoothLine([]complex64{0, 2e38, 0}, 1))
	succeeds(t, "SmoothLine of large numbers 0 times", []complex64{0, 2e38, 0})(impl.SmoothLine([]complex64{0, 2e38, 0}, 0))
	succeeds(t, "SmoothLine of large ends", []complex64{3e38, 3e38})(impl.SmoothLine([]complex64{3e38, 3e38}, 9))
}

// Each time does the same as one call, up to the limits of times and points.
func TestSmoothLinesStepByStep(t *testing.T) {
	for _, n := range []int{2, 3, 9, 128} {
		line := tangle(n, n)
		want := line
		for times := range int64(65) {
			succeeds(t, fmt.Sprintf("SmoothLine of %d points %d times", n, times), want)(impl.SmoothLine(line, times))
			want, _ = impl.SmoothLine(want, 1)
		}
	}
}
