package tests

import (
	"fmt"
	"math"
	"testing"

	"loop.example/g01341/impl"
)

// polygon returns a plot of n marks around a middle, the same one for the same n and seed, that turns to the left.
func polygon(n, seed int, middle complex64) []complex64 {
	plot := make([]complex64, n)
	for i, z := range tangle(n, seed) {
		long, way := 1+float64(real(z))/8, 2*math.Pi*float64(i)/float64(n)
		plot[i] = middle + complex64(complex(long*math.Cos(way), long*math.Sin(way)))
	}
	return plot
}

func TestAreasOfPlots(t *testing.T) {
	for _, c := range []struct {
		plot []complex64
		want float32
	}{
		{square(0, 2), 4}, {[]complex64{0, 1, 1i}, 0.5}, {[]complex64{1 + 1i, 4 + 1i, 4 + 5i}, 6}, {square(-1-1i, 2), 4}, {[]complex64{0, 2, 2i, 2 + 2i}, 0},
		// Marks on one line, and equal ones.
		{[]complex64{0, 1, 2}, 0}, {[]complex64{1 + 1i, 2 + 2i, 3 + 3i, -5 - 5i}, 0}, {[]complex64{3, 3, 3}, 0}, {[]complex64{0, 2, 2, 2 + 2i, 2i, 2i, 0}, 4}, {make([]complex64, 32), 0},
		{[]complex64{0, 0x1p-74, 0x1p-74i}, num(1)}, {[]complex64{0, 0x1p-74, 0x1p-75i}, 0},
	} {
		for by := range c.plot {
			plot := rotated(c.plot, by)
			saidTo(t, fmt.Sprintf("PlotArea %v", plot), said(impl.PlotArea(plot)), c.want)
			if area, ok := impl.PlotArea(turned(plot)); !ok || area != -c.want {
				t.Errorf("PlotArea %v: got %v, %v", turned(plot), area, ok)
			}
		}
	}
	for _, plot := range [][]complex64{{0}, {0, 1}, {1 + 1i, 2i}, {0, 2e19, 2e19 + 2e19i}, {-1e19 - 1e19i, 1e19 - 1e19i, 1e19 + 1e19i, -1e19 + 1e19i}, {0, 2e19 + 2e19i, 3e19 + 4e19i}} {
		failing(t, fmt.Sprintf("PlotArea %v", plot), said(impl.PlotArea(plot)))
		failing(t, fmt.Sprintf("CutPlot %v", plot), said(impl.CutPlot(plot, 0.5)))
	}
	for n := range 40 {
		_, ok := impl.PlotArea(zigzag(n))
		_, also := impl.CutPlot(zigzag(n), 0.5)
		if want := n >= 3 && n <= 32; ok != want || also != want {
			t.Errorf("%d marks of a plot: got %v and %v", n, ok, also)
		}
	}
	for _, marks := range wrongMarks() {
		failing(t, "PlotArea of wrong marks", said(impl.PlotArea(marks)))
		failing(t, "CutPlot of wrong marks", said(impl.CutPlot(marks, 0.5)))
	}
}

func TestCutPlots(t *testing.T) {
	for _, c := range []struct {
		plot        []complex64
		share, want float32
	}{
		{square(0, 2), 0, 0}, {square(0, 2), minusZero(), 0}, {square(-5+3i, 2), 0, -5}, {square(0, 2), 0.5, below(1)}, {square(0, 2), 0.25, below(0.5)}, {square(0, 4), 0.75, below(3)}, {square(0, 2), 1, below(2)}, {square(-3, 2), 0.5, -2.0000002}, {[]complex64{0, 4, 4 + 4i}, 0.25, below(2)},
		// After 30 halves, low and high are 5 and 6.
		{square(0, 0x1p30), 5.75 / 0x1p30, 5}, {turned(square(0, 0x1p30)), 5.25 / 0x1p30, 5},
		// No area is less than a share of nothing.
		{[]complex64{3, 1, 2}, 0.5, 1}, {[]complex64{1 + 1i, 1 + 2i, 1 - 3i}, 1, 1}, {[]complex64{5, 5, 5}, 1, 5}, {[]complex64{complex(num(1), 0), 0, 1i}, 0.5, 0},
		// The first one of equal least real parts, with its sign.
		{[]complex64{complex(minusZero(), 1), 0, 1}, 0, minusZero()}, {[]complex64{0, 1, complex(minusZero(), 1)}, 0, 0},
		// Half of a sum that is too large lies outside on one side.
		{[]complex64{2.5e38, 3e38, complex(3e38, 0.1)}, 1, 2.5e38}, {[]complex64{2.5e38, 3e38, complex(3e38, 0.1)}, 0.5, 2.5e38}, {[]complex64{-2.5e38, complex(-3e38, 0.1), -3e38}, 0, -3e38},
	} {
		saidTo(t, fmt.Sprintf("CutPlot %v, %v", c.plot, c.share), said(impl.CutPlot(c.plot, c.share)), c.want)
	}
	for _, share := range append(wrongNumbers(), -num(1), -1, above(1), 2, largest()) {
		failing(t, "CutPlot with the share "+tell(share), said(impl.CutPlot(square(0, 2), share)))
	}
	for _, c := range []struct {
		plot  []complex64
		share float32
	}{
		{[]complex64{-2.5e38, complex(-3e38, 0.1), -3e38}, 1}, {[]complex64{-2.5e38, complex(-3e38, 0.1), -3e38}, 0.5},
		// The way from the left to the right is too long, so that the area on the left of a place is not a number.
		{[]complex64{-3e38, 3e38, complex(3e38, 1e-10)}, 1},
	} {
		failing(t, fmt.Sprintf("CutPlot %v, %v", c.plot, c.share), said(impl.CutPlot(c.plot, c.share)))
	}
}

// exactLeft is the area of what lies on the left of a real part, for a plot that turns to the left.
func exactLeft(plot []complex64, m float64) float64 {
	area := 0.0
	for i, z := range plot {
		p, q := complex128(z), complex128(plot[(i+1)%len(plot)])
		// The trapezium between a piece and the vertical line, below it greater than 0.
		left, right := math.Min(real(p)-m, 0), math.Min(real(q)-m, 0)
		if real(p) == real(q) {
			continue
		}
		at := func(x float64) float64 { return imag(p) + (x+m-real(p))/(real(q)-real(p))*(imag(q)-imag(p)) }
		area -= (at(left) + at(right)) / 2 * (right - left)
	}
	return area
}

func TestSharesOfPlots(t *testing.T) {
	for seed := range 120 {
		plot := polygon(3+seed%30, seed, complex(float32(seed%7)-3, float32(seed%5)-2))
		whole, _ := impl.PlotArea(plot)
		for _, share := range []float32{0, 0.1, 0.25, 0.5, 0.8, 1} {
			cut, ok := impl.CutPlot(plot, share)
			left := exactLeft(plot, float64(cut))
			if !ok || whole <= 0 || math.Abs(left-float64(share*whole)) > 1e-4 {
				t.Errorf("CutPlot %v, %v: got %v, %v, where %v lies on its left", plot, share, cut, ok, left)
			}
			back, ok := impl.CutPlot(turned(plot), share)
			if !ok || math.Abs(exactLeft(plot, float64(back))-left) > 1e-4 {
				t.Errorf("CutPlot turned around %v, %v: got %v, %v", plot, share, back, ok)
			}
		}
	}
}

func TestSpreads(t *testing.T) {
	for _, c := range []struct {
		marks                 []complex64
		longer, shorter, turn float32
	}{
		{[]complex64{-1, 1}, 1, 0, 0}, {[]complex64{5 + 1i, 5 - 1i}, 1, 0, 0.25}, {square(-1-1i, 2), 1, 1, 0}, {[]complex64{1 + 1i, -1 - 1i}, 1.4142135, 0, 0.125}, {[]complex64{1 - 1i, -1 + 1i}, 1.4142135, 0, -0.125}, {[]complex64{2, -2, 1i, -1i}, 1.4142135, 0.70710677, 0}, {[]complex64{2i, -2i, 1, -1}, 1.4142135, 0.70710677, 0.25},
		{[]complex64{2 + 3i, 4 + 3i, 2 + 5i, 4 + 5i}, 1, 1, 0},
		// One mark, and equal ones.
		{[]complex64{7 - 3i}, 0, 0, 0}, {[]complex64{3, 3, 3, 3}, 0, 0, 0}, {make([]complex64, 32), 0, 0, 0}, {[]complex64{complex(minusZero(), minusZero())}, 0, 0, 0}, {[]complex64{complex(largest(), -largest())}, 0, 0, 0},
		// The squares of subnormal numbers are 0, and marks on one line are less than 0 wide when it is rounded.
		{[]complex64{0, complex(num(9), num(5))}, 0, 0, 0}, {[]complex64{-40 - 10i, -8 - 2i, 8 + 2i}, 20.569666, 0, 0.038989566},
		// The least mean of squares is not 0, but its own square is, so that both axes are equal.
		{[]complex64{0, 0x1p-73}, num(0x1a3504f3), num(0x1a3504f3), 0}, {[]complex64{0, 0x1p-73i}, num(0x1a3504f3), num(0x1a3504f3), 0.25},
	} {
		saidTo(t, fmt.Sprintf("SpreadOfMarks %v", c.marks), saidThree(impl.SpreadOfMarks(c.marks)), c.longer, c.shorter, c.turn)
	}
	far := complex(largest(), 0)
	for _, marks := range append(wrongMarks(), []complex64{far, far}, []complex64{-far, far}, []complex64{0, 1e20}, []complex64{0, 1e20i}, []complex64{1e20 + 1e20i, -1e20 - 1e20i}, []complex64{0, 2e10}) {
		failing(t, fmt.Sprintf("SpreadOfMarks of %d marks", len(marks)), saidThree(impl.SpreadOfMarks(marks)))
	}
	for n := range 40 {
		if _, _, _, ok := impl.SpreadOfMarks(zigzag(n)); ok != (n >= 1 && n <= 32) {
			t.Errorf("SpreadOfMarks of %d marks: got %v", n, ok)
		}
	}
}

// Marks that are turned have the same axes, with the turn more, nearly.
func TestTurnedSpreads(t *testing.T) {
	for seed := range 40 {
		by := float32(seed)/41 - 0.5
		var marks []complex64
		for _, z := range []complex64{3, -3, 1i, -1i} {
			marks = append(marks, impl.MulComplex(z, impl.PhasorOf(float64(by)))+7-5i)
		}
		longer, shorter, turn, ok := impl.SpreadOfMarks(marks)
		off := math.Remainder(float64(turn-by), 0.5)
		if !ok || math.Abs(float64(longer)-math.Sqrt(4.5)) > 1e-5 || math.Abs(float64(shorter)-math.Sqrt(0.5)) > 1e-5 || math.Abs(off) > 1e-5 || turn < -0.25 || turn > 0.25 {
			t.Errorf("SpreadOfMarks %v turned by %v: got %v, %v, %v, %v", marks, by, longer, shorter, turn, ok)
		}
	}
}
