package tests

import (
	"fmt"
	"math"
	"testing"

	"loop.example/g01341/impl"
)

func TestLabelSpots(t *testing.T) {
	for _, c := range []struct {
		loop  []complex64
		steps int64
		want  string
	}{
		{square(0, 4), 2, words(true, complex64(2+2i), float32(2))}, {square(0, 4), 4, words(true, complex64(2+2i), float32(2))}, {turned(square(0, 4)), 16, words(true, complex64(2+2i), float32(2))},
		// Of the four best places, the first one is lowest, and then the one most to the left.
		{square(0, 3), 3, words(true, complex64(1+1i), float32(1))}, {square(-3-3i, 6), 3, words(true, complex64(-1-1i), float32(2))}, {[]complex64{0, 8, 8 + 4i, 4i}, 4, words(true, complex64(2+2i), float32(2))},
		// With one step, only the corners of the box are places: one of the square is in it, on its edge.
		{square(0, 4), 1, words(true, complex64(0), float32(0))}, {[]complex64{2, 4 + 2i, 2 + 4i, 2i}, 1, "fails"}, {[]complex64{2, 4 + 2i, 2 + 4i, 2i}, 2, words(true, complex64(2+2i), float32(math.Sqrt2))},
		// The upper row and the right one count, too, and the piece that closes the loop.
		{[]complex64{0, 4, 4i}, 4, words(true, complex64(1+1i), float32(1))}, {[]complex64{0, 4i, 4 + 4i}, 4, words(true, complex64(1+3i), float32(1))}, {[]complex64{0, 16, 1i}, 1, words(true, complex64(0), float32(0))},
		{[]complex64{0, 1, 2}, 4, "fails"}, {[]complex64{3, 3, 3}, 4, "fails"}, {[]complex64{0, 0x1p-149, 0x1p-149i}, 1, words(true, complex64(0), float32(0))},
	} {
		expect(t, fmt.Sprintf("LabelSpot %v in %d steps", c.loop, c.steps), saidTwo(impl.LabelSpot(c.loop, c.steps)), c.want)
	}
	// Only the lower right corner of the box is in this loop, and only because a piece that ends there is rounded to lie beyond it.
	right := complex(num(0x3f734c4c), 0)
	corner := []complex64{complex(num(0xbffa788d), 1), right, complex(num(0xc0344a35), 0.5)}
	expect(t, "LabelSpot in the last column", saidTwo(impl.LabelSpot(corner, 1)), words(true, right, float32(0)))
	for _, steps := range []int64{0, -1, 17, 1 << 32, 1<<32 + 2, math.MaxInt64, math.MinInt64} {
		expect(t, fmt.Sprintf("LabelSpot in %d steps", steps), saidTwo(impl.LabelSpot(square(0, 4), steps)), "fails")
	}
	wide := complex(-largest(), -1)
	for _, loop := range [][]complex64{{wide, -wide, 1i}, {0, 3e19, 3e19 + 3e19i, 3e19i}} {
		expect(t, fmt.Sprintf("LabelSpot %v", loop), saidTwo(impl.LabelSpot(loop, 2)), "fails")
	}
}

// No other place of a box that is in the loop is farther from its edge than the label, and none that comes first is as far.
func TestLabelSpotsAreBest(t *testing.T) {
	for seed := range 40 {
		loop, steps := tangle(3+seed%9, seed), seed%16+1
		spot, far, ok := impl.LabelSpot(loop, int64(steps))
		low, high, _ := impl.BoxOfLine(loop)
		best, most, found := complex64(0), float32(0), false
		for i := range (steps + 1) * (steps + 1) {
			across, up := float32(i%(steps+1))/float32(steps), float32(i/(steps+1))/float32(steps)
			x := real(low) + float32((real(high)-real(low))*across)
			y := imag(low) + float32((imag(high)-imag(low))*up)
			isIn, _ := impl.IsInLoop(loop, complex(x, y))
			edge, _ := impl.FarOfLine(append(loop[:len(loop):len(loop)], loop[0]), complex(x, y))
			if isIn && (!found || edge > most) {
				best, most, found = complex(x, y), edge, true
			}
		}
		expect(t, fmt.Sprintf("LabelSpot of tangle %d", seed), words(ok, spot, far), words(found, best, most))
	}
}

func TestLabelCorners(t *testing.T) {
	for _, c := range []struct {
		points     []complex64
		wide, high float32
		want       []int64
	}{
		{[]complex64{0}, 1, 1, []int64{0}}, {[]complex64{0, 0, 0, 0, 0, 0}, 1, 1, []int64{0, 1, 2, 3, -1, -1}}, {[]complex64{0, 1}, 1, 1, []int64{0, 0}},
		// Boxes that have only an edge or a corner in common do not touch.
		{[]complex64{0, 1 + 1i, 1i, 1}, 1, 1, []int64{0, 0, 0, 0}}, {[]complex64{0, 0.5}, 1, 1, []int64{0, 2}}, {[]complex64{0, 0.5i}, 1, 1, []int64{0, 1}}, {[]complex64{0, 0.5 + 0.5i}, 1, 1, []int64{0, -1}},
		{[]complex64{0, -0.25 - 0.25i, -0.125i}, 1, 1, []int64{0, 1, 3}}, {[]complex64{0, 0.5 - 0.25i, 0.5i, 0.25}, 1, 1, []int64{0, 2, 1, -1}}, {[]complex64{0, complex(below(1), 0)}, 1, 1, []int64{0, 2}}, {[]complex64{0, complex(below(1), below(1))}, 1, 1, []int64{0, -1}},
		// A box in another one touches it, and one that was not taken does not count.
		{[]complex64{0, 2, 1}, 2, 1, []int64{0, 0, 2}}, {[]complex64{0, 3, 3 + 2i, 2i, 1.5 + 1i, 4 + 4i}, 3, 2, []int64{0, 0, 0, 0, -1, 0}},
		{[]complex64{0, 0.25}, 2, 0.5, []int64{0, 2}}, {[]complex64{0, 0.25i}, 0.5, 2, []int64{0, 1}}, {[]complex64{0, complex(0, -1)}, 1, 2, []int64{0, 1}}, {[]complex64{0, -1 - 1i}, 2, 2, []int64{0, 1}},
		{[]complex64{0, 0}, num(1), num(1), []int64{0, 1}}, {[]complex64{0, complex(minusZero(), minusZero())}, 1, 1, []int64{0, 1}},
		// Boxes without a width, since it is lost beside large numbers, touch only what is around them.
		{[]complex64{1e10, 1e10}, 1, 1, []int64{0, 0}}, {[]complex64{1e10, 1e10}, 1e10, 1, []int64{0, 1}},
		// Boxes can go beyond all numbers.
		{[]complex64{complex(largest(), 0), complex(largest(), 0), complex(largest(), 0)}, largest(), 1, []int64{0, 1, 2}}, {[]complex64{0, 0, 0, 0, 0}, largest(), largest(), []int64{0, 1, 2, 3, -1}},
	} {
		succeeds(t, fmt.Sprintf("LabelCorners %s, %v, %v", tell(c.points), c.wide, c.high), c.want)(impl.LabelCorners(c.points, c.wide, c.high))
	}
}

func TestLabelsThatAreNone(t *testing.T) {
	for _, x := range []float32{0, minusZero(), -num(1), -1, infinite(), -infinite(), num(0x7fc00000)} {
		fails[[]int64](t, fmt.Sprintf("LabelCorners %v wide", x))(impl.LabelCorners([]complex64{0, 1}, x, 1))
		fails[[]int64](t, fmt.Sprintf("LabelCorners %v high", x))(impl.LabelCorners([]complex64{0, 1}, 1, x))
	}
	for _, z := range wrongPoints() {
		fails[[]int64](t, "LabelCorners "+tell(z))(impl.LabelCorners([]complex64{z}, 1, 1))
		fails[[]int64](t, "LabelCorners with "+tell(z))(impl.LabelCorners([]complex64{0, 1, z}, 1, 1))
	}
	for _, n := range []int{1, 2, 127, 128} {
		succeeds(t, fmt.Sprintf("LabelCorners of %d points", n), make([]int64, n))(impl.LabelCorners(zigzag(n), 1, 0.25))
	}
	for _, n := range []int{0, 129, 1000} {
		fails[[]int64](t, fmt.Sprintf("LabelCorners of %d points", n))(impl.LabelCorners(zigzag(n), 1, 0.25))
	}
}

// complete returns all pairs of n things.
func complete(n int64) []int64 {
	var pairs []int64
	for a := range n {
		for b := range a {
			pairs = append(pairs, a, b)
		}
	}
	return pairs
}

// repeated returns pairs again and again, n of them in all.
func repeated(pairs []int64, n int) []int64 {
	list := make([]int64, 2*n)
	for i := range list {
		list[i] = pairs[i%len(pairs)]
	}
	return list
}

// countUp returns the numbers from 0 to n - 1.
func countUp(n int64) []int64 {
	list := make([]int64, n)
	for i := range list {
		list[i] = int64(i)
	}
	return list
}

func TestColours(t *testing.T) {
	for _, c := range []struct {
		n     int64
		pairs []int64
		want  []int64
	}{
		{1, nil, []int64{0}}, {4, nil, []int64{0, 0, 0, 0}}, {2, []int64{0, 1}, []int64{0, 1}}, {2, []int64{1, 0}, []int64{0, 1}}, {3, []int64{0, 1, 1, 2, 0, 2}, []int64{0, 1, 2}},
		// Things with more pairs come first, and of equal ones the first one.
		{3, []int64{0, 1, 1, 2}, []int64{1, 0, 1}}, {4, []int64{0, 1, 2, 3}, []int64{0, 1, 0, 1}}, {4, []int64{0, 3, 1, 3, 2, 3}, []int64{1, 1, 1, 0}}, {4, []int64{0, 1, 1, 2, 2, 3}, []int64{1, 0, 1, 0}},
		{4, []int64{0, 3, 3, 1, 1, 2}, []int64{0, 0, 1, 1}}, {6, []int64{0, 3, 0, 5, 2, 1, 2, 5, 4, 1, 4, 3}, []int64{0, 0, 1, 1, 2, 2}},
		// Pairs count as often as they are there, in any order.
		{3, []int64{0, 1, 0, 1, 2, 1, 1, 2}, []int64{1, 0, 1}}, {2, []int64{0, 1, 1, 0, 0, 1}, []int64{0, 1}}, {4, []int64{0, 1, 0, 2, 3, 2, 2, 3, 3, 2}, []int64{1, 0, 0, 1}}, {4, []int64{0, 1, 0, 2, 3, 1, 1, 3}, []int64{1, 0, 0, 1}},
		{5, []int64{0, 1, 1, 2, 3, 4, 4, 3, 4, 3}, []int64{1, 0, 1, 0, 1}}, {3, []int64{0, 1, 0, 2, 1, 2, 1, 2}, []int64{2, 0, 1}}, {32, complete(32), countUp(32)}, {32, repeated(complete(3), 999), append([]int64{0, 1, 2}, make([]int64, 29)...)},
	} {
		succeeds(t, fmt.Sprintf("ColoursOf %d, %v", c.n, c.pairs[:min(len(c.pairs), 20)]), c.want)(impl.ColoursOf(c.n, c.pairs))
	}
}

func TestFewColours(t *testing.T) {
	wheel := []int64{0, 1, 0, 2, 0, 3, 0, 4, 0, 5, 1, 2, 2, 3, 3, 4, 4, 5, 5, 1}
	for _, c := range []struct {
		n     int64
		pairs []int64
		most  int64
		want  []int64
	}{
		{1, nil, 1, []int64{0}}, {3, []int64{0, 1}, 2, []int64{0, 1, 0}}, {16, nil, 4, make([]int64, 16)}, {4, complete(4), 4, []int64{0, 1, 2, 3}}, {4, []int64{3, 0, 2, 1}, 2, []int64{0, 0, 1, 1}},
		// First colours are small, even if later ones are larger for it, but they are larger if there is nothing left for later ones.
		{4, []int64{0, 3, 1, 3, 2, 3}, 2, []int64{0, 0, 0, 1}}, {4, []int64{0, 2, 2, 3, 3, 1}, 3, []int64{0, 0, 1, 2}}, {4, []int64{0, 2, 2, 3, 3, 1}, 2, []int64{0, 1, 1, 0}},
		{5, []int64{0, 1, 1, 2, 2, 3, 3, 4, 4, 0}, 3, []int64{0, 1, 0, 1, 2}}, {6, wheel, 4, []int64{0, 1, 2, 1, 2, 3}}, {6, []int64{0, 3, 3, 1, 1, 4, 4, 2, 2, 5, 5, 0}, 2, []int64{0, 0, 0, 1, 1, 1}},
		{6, []int64{0, 5, 1, 4, 2, 3, 4, 5, 3, 4}, 2, []int64{0, 1, 0, 1, 0, 1}}, {3, []int64{0, 1, 1, 0, 0, 1}, 2, []int64{0, 1, 0}}, {16, repeated(complete(4), 1000), 4, append([]int64{0, 1, 2, 3}, make([]int64, 12)...)},
	} {
		succeeds(t, fmt.Sprintf("FewColours %d, %v, %d", c.n, c.pairs[:min(len(c.pairs), 20)], c.most), c.want)(impl.FewColours(c.n, c.pairs, c.most))
	}
	for _, c := range []struct {
		n     int64
		pairs []int64
		most  int64
	}{
		{2, []int64{0, 1}, 1}, {3, complete(3), 2}, {4, complete(4), 3}, {5, complete(5), 4}, {16, complete(16), 4}, {5, []int64{0, 1, 1, 2, 2, 3, 3, 4, 4, 0}, 2}, {6, wheel, 3},
	} {
		fails[[]int64](t, fmt.Sprintf("FewColours %d, %v, %d", c.n, c.pairs, c.most))(impl.FewColours(c.n, c.pairs, c.most))
	}
}

// Five things that each have a pair with each other have no four colours, and to find this is quick, whatever comes before them.
func TestFewColoursOfMany(t *testing.T) {
	for _, before := range [][]int64{nil, {0, 1, 2, 3, 4, 5, 6, 7, 8, 9}, {0, 1, 1, 2, 2, 3, 3, 4, 4, 5, 5, 6, 6, 7, 7, 8, 8, 9, 9, 10, 10, 11}} {
		pairs := before
		for _, k := range complete(5) {
			pairs = append(pairs, 11+k)
		}
		fails[[]int64](t, fmt.Sprintf("FewColours behind %v", before))(impl.FewColours(16, repeated(pairs, 1000), 4))
	}
}

// firstColours returns the first list of colours, found by trying all lists in order.
func firstColours(n int64, pairs []int64, most int64) ([]int64, bool) {
	total := int64(math.Pow(float64(most), float64(n)))
next:
	for code := range total {
		colours := make([]int64, n)
		for i := n - 1; i >= 0; i-- {
			colours[i] = code % most
			code /= most
		}
		for i := 0; i < len(pairs); i += 2 {
			if colours[pairs[i]] == colours[pairs[i+1]] {
				continue next
			}
		}
		return colours, true
	}
	return nil, false
}

func TestFewColoursAreTheFirst(t *testing.T) {
	for seed := range 300 {
		n, most := int64(seed%6+1), int64(seed%4+1)
		var pairs []int64
		for _, z := range tangle(seed%13, seed) {
			a, b := int64(real(z)*100)%n, int64(imag(z)*100)%n
			if a != b {
				pairs = append(pairs, a, b)
			}
		}
		want, ok := firstColours(n, pairs, most)
		expect(t, fmt.Sprintf("FewColours %d, %v, %d", n, pairs, most), said(impl.FewColours(n, pairs, most)), words(ok, want))
		checkColours(t, n, pairs)
	}
}

// checkColours checks that the things of all pairs have other colours, and that none has a greater one than it needs.
func checkColours(t *testing.T, n int64, pairs []int64) {
	t.Helper()
	colours, ok := impl.ColoursOf(n, pairs)
	if !ok || int64(len(colours)) != n {
		t.Fatalf("ColoursOf %d, %v: got %v, %v", n, pairs, colours, ok)
	}
	for i := 0; i < len(pairs); i += 2 {
		if colours[pairs[i]] == colours[pairs[i+1]] {
			t.Errorf("ColoursOf %d, %v: got %v", n, pairs, colours)
		}
	}
	for thing, colour := range colours {
		for less := range colour {
			taken := false
			for i := range pairs {
				taken = taken || pairs[i] == int64(thing) && colours[pairs[i^1]] == less
			}
			if !taken {
				t.Errorf("ColoursOf %d, %v: got %v", n, pairs, colours)
			}
		}
	}
}

func TestPairsThatAreNone(t *testing.T) {
	for _, pairs := range [][]int64{{0}, {0, 1, 2}, {0, 0}, {1, 1}, {0, 1, 2, 2}, {0, 3}, {3, 0}, {-1, 0}, {0, -1}, {0, 1, math.MaxInt64, 0}, {math.MinInt64, 1}, {0, 1 << 32}, repeated(complete(3), 1001), make([]int64, 2001), repeated(complete(3), 1001)[:2001]} {
		what := fmt.Sprint(pairs[:min(len(pairs), 8)])
		fails[[]int64](t, "ColoursOf "+what)(impl.ColoursOf(3, pairs))
		fails[[]int64](t, "FewColours "+what)(impl.FewColours(3, pairs, 4))
	}
	for _, n := range []int64{0, -1, 33, 1 << 32, 1<<32 + 1, math.MaxInt64, math.MinInt64} {
		fails[[]int64](t, fmt.Sprintf("ColoursOf %d things", n))(impl.ColoursOf(n, nil))
	}
	for _, n := range []int64{0, -1, 17, 32, 1 << 32, 1<<32 + 1, math.MaxInt64, math.MinInt64} {
		fails[[]int64](t, fmt.Sprintf("FewColours of %d things", n))(impl.FewColours(n, nil, 4))
	}
	for _, most := range []int64{0, -1, 5, 1 << 32, 1<<32 + 1, math.MaxInt64, math.MinInt64} {
		fails[[]int64](t, fmt.Sprintf("FewColours below %d", most))(impl.FewColours(3, nil, most))
	}
	succeeds(t, "1000 pairs of three things", []int64{0, 1, 2})(impl.ColoursOf(3, repeated(complete(3), 1000)))
}
