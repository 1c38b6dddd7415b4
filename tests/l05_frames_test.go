package tests

import (
	"fmt"
	"slices"
	"testing"

	"loop.example/g01341/impl"
)

func TestFrames(t *testing.T) {
	far := complex(largest(), -largest())
	for _, f := range []impl.Frame{frame(1, 0), frame(2i, 1), frame(complex(num(1), 0), 0), frame(complex(minusZero(), -num(1)), 5i), frame(far, far), frame(complex(0, 1), complex(minusZero(), minusZero()))} {
		expect(t, "ValidFrame "+words(true, f), impl.ValidFrame(f), true)
	}
	for _, f := range wrongFrames() {
		what := words(true, f)
		expect(t, "ValidFrame "+what, impl.ValidFrame(f), false)
		failing(t, "FrameAt "+what, said(impl.FrameAt(f, 1)))
		failing(t, "FrameBack "+what, said(impl.FrameBack(f)))
		failing(t, "JoinFrames first "+what, said(impl.JoinFrames(f, frame(1, 0))))
		failing(t, "JoinFrames last "+what, said(impl.JoinFrames(frame(1, 0), f)))
		failing(t, "MissesOf "+what, said(impl.MissesOf(f, []complex64{0, 1}, []complex64{0, 1})))
	}
}

func TestWhereFramesLead(t *testing.T) {
	far := complex(largest(), 0)
	for _, c := range []struct {
		f       impl.Frame
		z, want complex64
	}{
		{frame(2i, 1), 1, 1 + 2i}, {frame(1+2i, 0), 3 - 1i, 5 + 5i}, {frame(1, -3i), 2 + 3i, 2}, {frame(1, 0), complex(minusZero(), minusZero()), 0}, {frame(-1, 0), 3, -3}, {frame(0.5, 0), complex(num(2), num(1)), complex(num(1), 0)},
		// A product can become 0, but the Turn does not.
		{frame(complex(1e20, 0), 0), 1e18, 1e38}, {frame(complex(num(1), 0), 5), complex(num(1), 0), 5},
	} {
		saidTo(t, "FrameAt "+words(true, c.f, c.z), said(impl.FrameAt(c.f, c.z)), c.want)
	}
	for _, z := range wrongPoints() {
		failing(t, "FrameAt of "+tell(z), said(impl.FrameAt(frame(1, 0), z)))
	}
	failing(t, "a frame that leads too far", said(impl.FrameAt(frame(2, 0), far)))
	failing(t, "a frame that turns too far", said(impl.FrameAt(frame(1e20+1e20i, 0), 1e19+1e19i)))
	failing(t, "a frame that shifts too far", said(impl.FrameAt(frame(1, far), far)))
	saidTo(t, "a frame that leads far and back", said(impl.FrameAt(frame(1, -far), far)), complex64(0))
}

func TestFramesBack(t *testing.T) {
	for _, c := range []struct{ f, want impl.Frame }{
		// The Shift is the opposite of a product, some parts of which are +0.
		{frame(2i, 1), frame(-0.5i, complex(minusZero(), 0.5))}, {frame(1, 0), frame(1, complex(minusZero(), minusZero()))}, {frame(2, 4-6i), frame(0.5, -2+3i)}, {frame(-4, 1), frame(complex(-0.25, minusZero()), complex(0.25, 0))},
		{frame(complex(largest(), 0), 0), frame(complex(num(0x200000), 0), complex(minusZero(), minusZero()))}, {frame(complex(0, 0x1p-127), 1), frame(complex(0, -0x1p127), complex(minusZero(), 0x1p127))},
	} {
		saidTo(t, "FrameBack "+words(true, c.f), said(impl.FrameBack(c.f)), c.want)
	}
	for _, f := range []impl.Frame{frame(complex(num(1), 0), 0), frame(complex(0, -num(0xfffff)), 0), frame(complex(0x1p-128, 0), 0), frame(1e-30, 1e30), frame(complex(0, 1e-20), 1e30i)} {
		failing(t, "FrameBack "+words(true, f), said(impl.FrameBack(f)))
	}
}

func TestJoinedFrames(t *testing.T) {
	for _, c := range []struct{ a, b, want impl.Frame }{
		{frame(2i, 1), frame(2i, 1), frame(-4, 1+2i)}, {frame(1, 5), frame(3i, 1), frame(3i, 6)}, {frame(3i, 1), frame(1, 5), frame(3i, 1+15i)}, {frame(1, 0), frame(1+2i, 3-4i), frame(1+2i, 3-4i)}, {frame(0.5, 0), frame(2, 1i), frame(1, 0.5i)},
	} {
		saidTo(t, "JoinFrames "+words(true, c.a, c.b), said(impl.JoinFrames(c.a, c.b)), c.want)
	}
	small, large := frame(1e-30, 1), frame(1e30, 1)
	failing(t, "JoinFrames whose Turn becomes 0", said(impl.JoinFrames(small, small)))
	failing(t, "JoinFrames whose Turn becomes too large", said(impl.JoinFrames(large, large)))
	failing(t, "JoinFrames whose Shift becomes too large", said(impl.JoinFrames(large, frame(1, 1e30))))
	failing(t, "JoinFrames whose Shifts become too large", said(impl.JoinFrames(frame(1, complex(0, largest())), frame(1, complex(0, largest())))))
	saidTo(t, "JoinFrames whose Turn becomes subnormal", said(impl.JoinFrames(frame(0x1p-100, 0), frame(0x1p-49, 0))), frame(complex(num(1), 0), 0))
}

// wrongPairs are lists that are no marks, or not as many of one as of the other.
func wrongPairs() [][2][]complex64 {
	pairs := [][2][]complex64{{nil, nil}, {nil, {0}}, {{0}, nil}, {{0, 1}, {0}}, {{0, 1}, {0, 1, 2}}, {zigzag(31), zigzag(32)}, {zigzag(32), zigzag(31)}, {zigzag(33), zigzag(33)}, {zigzag(32), zigzag(33)}}
	for _, list := range wrongMarks() {
		pairs = append(pairs, [2][]complex64{list, list})
		if len(list) == 4 {
			good := []complex64{0, 1, 1i, 3}
			pairs = append(pairs, [2][]complex64{list, good}, [2][]complex64{good, list})
		}
	}
	return pairs
}

func TestWrongPairs(t *testing.T) {
	for i, p := range wrongPairs() {
		what := fmt.Sprintf("wrong pair %d", i)
		failing(t, "FitFrame of "+what, saidTwo(impl.FitFrame(p[0], p[1])))
		failing(t, "MissesOf "+what, said(impl.MissesOf(frame(1, 0), p[0], p[1])))
		failing(t, "DropWorst of "+what, saidTwo(impl.DropWorst(p[0], p[1], 1)))
		failing(t, "SkewFit of "+what, said(impl.SkewFit(p[0], p[1])))
	}
	// Of two marks, SkewFit can find more than it should, where a number that should be 0 is rounded up.
	for n := 3; n <= 34; n++ {
		list := tangle(n, 5)
		_, _, one := impl.FitFrame(list, list)
		_, two := impl.MissesOf(frame(1, 0), list, list)
		left, _, three := impl.DropWorst(list, list, 1)
		_, four := impl.SkewFit(list, list)
		many := n <= 32
		if one != many || two != many || three != many || four != many || three && len(left) != n {
			t.Errorf("%d marks: got %v, %v, %v, %v", n, one, two, three, four)
		}
	}
}

func TestFittedFrames(t *testing.T) {
	for _, c := range []struct {
		from, to []complex64
		want     impl.Frame
		miss     float32
	}{
		{[]complex64{0, 2}, []complex64{1, 3}, frame(1, 1), 0}, {[]complex64{0, 2}, []complex64{0, 2i}, frame(1i, 0), 0}, {[]complex64{0, 2}, []complex64{3, -1}, frame(-2, 3), 0}, {[]complex64{0, 4i}, []complex64{1, 2}, frame(-0.25i, 1), 0}, {[]complex64{1, 1i, -1, -1i}, []complex64{5, 3 + 2i, 1, 3 - 2i}, frame(2, 3), 0},
		// Marks that do not fit are missed equally on all sides.
		{[]complex64{1, 1i, -1, -1i}, []complex64{1 + 1i, 1i, -1 + 1i, -1i}, frame(1, 0.5i), 0.5}, {[]complex64{0, 2, 4}, []complex64{0, 2 + 3i, 4}, frame(1, 1i), 2}, {[]complex64{1, -1, 1i, -1i}, []complex64{2, -2, 1i, -1i}, frame(1.5, 0), 0.5},
		// Some marks are equal, or all of them lie on one line.
		{[]complex64{0, 0, 4, 4}, []complex64{-1, 1, 3, 5}, frame(1, 0), 1}, {[]complex64{-2 - 2i, 0, 2 + 2i}, []complex64{-2, 0, 2}, frame(0.5-0.5i, 0), 0},
	} {
		saidTo(t, fmt.Sprintf("FitFrame %v, %v", c.from, c.to), saidTwo(impl.FitFrame(c.from, c.to)), c.want, c.miss)
	}
	far := complex(largest(), largest())
	for _, c := range [][2][]complex64{
		{{0}, {0}}, {{1, 1}, {0, 1}}, {{1, 1, 1}, {0, 1, 2}}, {{0, complex(minusZero(), 0)}, {0, 1}},
		// The Turn would be 0.
		{{0, 1}, {3, 3}}, {{1, -1, 1i, -1i}, {1, 1, 1, 1}}, {{-1, 0, 1}, {1, 0, 1}}, {{0, 2e15}, {0, 1e-31}},
		// The powers of the former marks, or the products, are too large or too small, and so are means.
		{{0, 1e20}, {0, 1}}, {{0, 1e-30}, {0, 1}}, {{0, complex(num(2), 0)}, {0, 1}}, {{0, 0.5}, {0, far}}, {{far, far, 0}, {0, 1, 2}}, {{0, 1, 2}, {far, far, 0}}, {{-far, far}, {0, 1}}, {{0, 1e-20}, {0, 1e20}}, {{0, 1e15}, {0, 1e30}},
	} {
		failing(t, fmt.Sprintf("FitFrame %v, %v", c[0], c[1]), saidTwo(impl.FitFrame(c[0], c[1])))
		failing(t, fmt.Sprintf("DropWorst %v, %v", c[0], c[1]), saidTwo(impl.DropWorst(c[0], c[1], largest())))
	}
}

func TestMissesOfFrames(t *testing.T) {
	for _, c := range []struct {
		f        impl.Frame
		from, to []complex64
		want     []float32
	}{
		{frame(1, 0), []complex64{0, 1}, []complex64{0, 3}, []float32{0, 2}}, {frame(1, 0), []complex64{0}, []complex64{3 - 4i}, []float32{5}}, {frame(2i, 1), []complex64{0, 1, 1i}, []complex64{1, 1, 3 + 4i}, []float32{0, 2, 5.656854}}, {frame(1, 0), []complex64{1, 1}, []complex64{1, 1}, []float32{0, 0}},
		{frame(1, 0), []complex64{0}, []complex64{complex(num(1), minusZero())}, []float32{num(1)}}, {frame(1, 0), []complex64{0}, []complex64{complex(largest(), 0)}, []float32{largest()}},
	} {
		saidTo(t, fmt.Sprintf("MissesOf %v %v %v", c.f, c.from, c.to), said(impl.MissesOf(c.f, c.from, c.to)), c.want)
	}
	far := complex(largest(), largest())
	failing(t, "a miss too large", said(impl.MissesOf(frame(1, 0), []complex64{1, 0}, []complex64{1, far})))
	failing(t, "a mark too far", said(impl.MissesOf(frame(2, 0), []complex64{far, 1}, []complex64{0, 1})))
	failing(t, "a mark too far to the left", said(impl.MissesOf(frame(1, 0), []complex64{-far, 1}, []complex64{far, 1})))
}

// droppedByHand leaves marks out one after another, as FitFrame and MissesOf tell.
func droppedByHand(from, to []complex64, limit float32) string {
	left := make([]int64, len(from))
	for i := range left {
		left[i] = int64(i)
	}
	for {
		f, most, ok := impl.FitFrame(from, to)
		if !ok {
			return "fails"
		}
		if most <= limit {
			return words(true, left, f)
		}
		misses, _ := impl.MissesOf(f, from, to)
		i := slices.Index(misses, most)
		from, to, left = without(from, i), without(to, i), without(left, i)
	}
}

func TestDroppedMarks(t *testing.T) {
	cross, moved := []complex64{1, 1i, -1, -1i}, []complex64{1 + 1i, 1i, -1 + 1i, -1i}
	all := []int64{0, 1, 2, 3}
	saidTo(t, "DropWorst of marks that fit", saidTwo(impl.DropWorst(cross, cross, 0)), all, frame(1, 0))
	saidTo(t, "DropWorst with the limit -0", saidTwo(impl.DropWorst(cross, cross, minusZero())), all, frame(1, 0))
	saidTo(t, "DropWorst of nothing", saidTwo(impl.DropWorst(cross, moved, 0.5)), all, frame(1, 0.5i))
	// All are missed equally, so the first one is left out.
	left, _, ok := impl.DropWorst(cross, moved, below(0.5))
	if !ok || len(left) == 0 || left[0] != 1 {
		t.Errorf("DropWorst with a lesser limit: got %v, %v", left, ok)
	}
	for _, x := range append(wrongNumbers(), -num(1), -1) {
		failing(t, "DropWorst with the limit "+tell(x), saidTwo(impl.DropWorst(cross, cross, x)))
		failing(t, "DropWorst of one mark with the limit "+tell(x), saidTwo(impl.DropWorst(cross[:1], cross[:1], x)))
	}
	failing(t, "DropWorst of one mark", saidTwo(impl.DropWorst(cross[:1], cross[:1], 9)))
	// Two marks are missed a little, too, by what is rounded: then only one would be left.
	failing(t, "DropWorst of two marks", saidTwo(impl.DropWorst([]complex64{0, 0.1}, []complex64{0, 0.5}, 1e-8)))
	saidTo(t, "DropWorst of two marks with their miss", saidTwo(impl.DropWorst([]complex64{0, 0.1}, []complex64{0, 0.5}, 0x1p-26)), []int64{0, 1}, frame(complex(below(5), 0), 0x1p-26))
	for seed := range 150 {
		n := 2 + seed%31
		from, to := tangle(n, seed), tangle(n, seed+1)
		if seed%3 == 0 {
			from, to = lattice(n, seed), lattice(n, seed+7)
		}
		for _, limit := range []float32{0, 1e-6, 0.5, 2, 5, largest()} {
			if got, want := saidTwo(impl.DropWorst(from, to, limit)), droppedByHand(from, to, limit); got != want {
				t.Errorf("DropWorst %v, %v with %v: got %s, want %s", from, to, limit, got, want)
			}
		}
	}
}

func TestSkewFits(t *testing.T) {
	corners := []complex64{0, 1, 1i}
	fromCross := append(make([]complex64, 8), 1, -1, 1, -1, 1i, -1i, 1i, -1i)
	toCross := append(slices.Repeat([]complex64{1}, 8), 3+4i, -1, 5+2i, -3-2i, 1, 1, 3+1i, -1+3i)
	for _, c := range []struct {
		from, to []complex64
		want     []float32
	}{
		{corners, corners, []float32{1, 0, 0, 0, 1, 0}}, {corners, []complex64{4 - 1i, 6 + 4i, 7 - 3i}, []float32{2, 3, 4, 5, -2, -1}}, {corners, []complex64{5, 5, 5}, []float32{0, 0, 5, 0, 0, 0}}, {corners, []complex64{0, 1i, 1}, []float32{0, 1, 0, 1, 0, 0}},
		// Marks that do not fit: the sums of squares are 4, 4 and 16, which have exact roots.
		{fromCross, toCross, []float32{3, 1, 1, 2, -0.5, 0.5}},
	} {
		saidTo(t, fmt.Sprintf("SkewFit %v, %v", c.from, c.to), said(impl.SkewFit(c.from, c.to)), c.want)
	}
	far := complex(largest(), largest())
	for _, c := range [][2][]complex64{
		{{0}, {0}}, {{0, 1}, {0, 1}}, {{1, 1, 1, 1}, {0, 1, 2, 3}},
		// Marks on one line.
		{{0, 1, 2}, {0, 1, 2}}, {{0, 1i, 2i}, {0, 1, 2}}, {{1 + 1i, -1 - 1i, 1 + 1i, -1 - 1i}, {0, 1, 2, 3}}, {{2, 2 + 1i, 2 + 3i, 2 - 4i}, {0, 1, 2, 3}},
		// Products that are too large or too small.
		{{0, 1e20, 1e20i}, {0, 1, 1i}}, {{0, 1e-30, 1e-30i}, {0, 1, 1i}}, {{0, 1, 1i}, {0, far, far}}, {{0, 100, 100i}, {0, 1e38, 1}}, {{0, 100, 100i}, {0, 1, 1e38i}}, {{0, 1e-10, 1e-10i}, {0, 1e30, 1}},
	} {
		failing(t, fmt.Sprintf("SkewFit %v, %v", c[0], c[1]), said(impl.SkewFit(c[0], c[1])))
	}
}
