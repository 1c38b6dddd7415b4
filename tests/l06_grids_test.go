package tests

import (
	"fmt"
	"math"
	"testing"

	"loop.example/g01341/impl"
)

func TestValidGrid(t *testing.T) {
	for _, g := range append(someGrids(), oddGrids()...) {
		if !impl.ValidGrid(g) {
			t.Errorf("the grid %dx%d of %v is not valid", g.Wide, g.High, g.Heights)
		}
	}
	for _, g := range wrongGrids() {
		if impl.ValidGrid(g) {
			t.Errorf("the grid %dx%d of %v is valid", g.Wide, g.High, g.Heights)
		}
	}
	for wide := range int64(20) {
		for high := range int64(20) {
			want := wide >= 2 && wide <= 16 && high >= 2 && high <= 16
			if impl.ValidGrid(level(wide, high, 1)) != want {
				t.Errorf("a grid %dx%d is not as valid as it should be", wide, high)
			}
		}
	}
	// Every single height counts.
	for i := range int64(256) {
		for _, x := range wrongNumbers() {
			if impl.ValidGrid(withHeight(level(16, 16, 1), i, x)) {
				t.Errorf("a grid is valid with %v for the height %d", x, i)
			}
		}
	}
}

func TestSameGrid(t *testing.T) {
	for i, a := range allGrids() {
		if !impl.SameGrid(a, ground(a.Wide, a.High, append([]float32{}, a.Heights...)...)) {
			t.Errorf("grid %d is not the same as itself", i)
		}
		for k, b := range allGrids() {
			want := words(true, a) == words(true, b)
			if impl.SameGrid(a, b) != want {
				t.Errorf("SameGrid of %d and %d is not %v", i, k, want)
			}
		}
	}
	same := func(what string, want bool, a, b impl.Grid) {
		t.Helper()
		if impl.SameGrid(a, b) != want || impl.SameGrid(b, a) != want {
			t.Errorf("%s: not %v", what, want)
		}
	}
	g := hills(3, 4, 2)
	for i := range int64(12) {
		same("another height", false, g, withHeight(g, i, above(g.Heights[i])))
	}
	same("another width", false, g, ground(2, 4, g.Heights...))
	same("another number of rows", false, g, ground(3, 5, g.Heights...))
	same("the sides exchanged", false, g, ground(4, 3, g.Heights...))
	same("a height less", false, g, ground(3, 4, g.Heights[:11]...))
	same("zeros with signs", false, level(2, 2, 0), withHeight(level(2, 2, 0), 3, minusZero()))
	same("not-a-numbers", true, level(2, 2, num(0x7fc00000)), level(2, 2, num(0xff800001)))
	same("infinities", false, level(2, 2, infinite()), level(2, 2, -infinite()))
	same("no heights", true, ground(-1, 7), impl.Grid{Wide: -1, High: 7, Heights: []float32{}})
	same("unused capacity", true, ground(2, 2, make([]float32, 4, 9)...), level(2, 2, 0))
}

func TestFlatGrid(t *testing.T) {
	for wide := int64(-1); wide < 19; wide++ {
		for high := int64(-1); high < 19; high++ {
			got := said(impl.FlatGrid(wide, high, 7))
			if wide >= 2 && wide <= 16 && high >= 2 && high <= 16 {
				saidTo(t, fmt.Sprintf("FlatGrid %dx%d", wide, high), got, level(wide, high, 7))
			} else {
				failing(t, fmt.Sprintf("FlatGrid %dx%d", wide, high), got)
			}
		}
	}
	for _, x := range []float32{0, minusZero(), num(1), largest(), -largest()} {
		saidTo(t, fmt.Sprint("FlatGrid of ", x), said(impl.FlatGrid(2, 3, x)), level(2, 3, x))
	}
	for _, x := range wrongNumbers() {
		failing(t, fmt.Sprint("FlatGrid of ", x), said(impl.FlatGrid(2, 3, x)))
	}
	for _, n := range []int64{1 << 32, 1<<32 + 2, 1 << 62, math.MaxInt64, math.MinInt64} {
		failing(t, fmt.Sprint("FlatGrid with both sides ", n), said(impl.FlatGrid(n, n, 1)))
		failing(t, fmt.Sprint("FlatGrid with a side ", n), said(impl.FlatGrid(2, n, 1)))
	}
}

func TestConeGrid(t *testing.T) {
	root := impl.LongOf(1 + 1i)
	saidTo(t, "a cone", said(impl.ConeGrid(3, 3, 1+1i, 4, 1)), ground(3, 3, 4-root, 3, 4-root, 3, 4, 3, 4-root, 3, 4-root))
	saidTo(t, "a funnel", said(impl.ConeGrid(2, 3, 1i, 1, -2)), ground(2, 3, 3, 1+2*root, 1, 3, 3, 1+2*root))
	saidTo(t, "a cone without a fall", said(impl.ConeGrid(2, 2, 9-4i, 5, 0)), level(2, 2, 5))
	saidTo(t, "a cone whose middle is far away", said(impl.ConeGrid(2, 2, -3e19, 0, 1)), level(2, 2, -3e19))
	saidTo(t, "a long and low cone", said(impl.ConeGrid(2, 2, 0.5+0.5i, 1, num(1))), level(2, 2, 1))
	// The product is rounded before it is taken away.
	fall, top := num(0x3f800001), num(0x40000003)
	saidTo(t, "a cone that rounds twice", said(impl.ConeGrid(2, 2, complex(-num(0x3f800001), 0), top, fall)),
		ground(2, 2, top-num(0x3f800002), top-float32(float64(fall)*2), top-float32(float64(fall)*float64(impl.LongOf(complex(num(0x3f800001), 1)))), top-float32(float64(fall)*float64(impl.LongOf(complex(2, 1))))))
	half := largest() / 2
	if g, ok := impl.ConeGrid(2, 2, 0, 0, half); !ok || g.Heights[1] != -half {
		t.Errorf("a steep cone is %v, %v", g, ok)
	}
	failing(t, "a cone that is too steep", said(impl.ConeGrid(2, 2, 0, 0, largest())))
	failing(t, "a cone that falls too far", said(impl.ConeGrid(3, 2, 0, -largest(), largest()/2)))
	failing(t, "a cone whose middle is too far away", said(impl.ConeGrid(2, 2, complex(largest(), largest()), 1, 0)))
	for _, x := range wrongNumbers() {
		for _, fall := range []float32{0, 1, -1} {
			failing(t, "a middle that is not finite", said(impl.ConeGrid(2, 2, complex(x, 0), 1, fall)))
			failing(t, "a middle that is not finite", said(impl.ConeGrid(2, 2, complex(0, x), 1, fall)))
			failing(t, "a top that is not finite", said(impl.ConeGrid(2, 2, 0, x, fall)))
		}
		failing(t, "a fall that is not finite", said(impl.ConeGrid(2, 2, 0, 1, x)))
	}
	for _, sides := range [][2]int64{{1, 2}, {2, 1}, {17, 2}, {2, 17}, {0, 0}, {-2, -2}, {1 << 32, 1 << 32}} {
		failing(t, fmt.Sprint("a cone with the sides ", sides), said(impl.ConeGrid(sides[0], sides[1], 1, 2, 3)))
	}
	if g, ok := impl.ConeGrid(16, 16, 0, 0, 1); !ok || g.Heights[255] != -impl.LongOf(15+15i) || g.Heights[16] != -1 {
		t.Errorf("the largest cone is %v, %v", g, ok)
	}
}

func TestWeighGrids(t *testing.T) {
	a, b := ground(2, 3, 0, 1, 2, 3, 4, 5), ground(2, 3, 10, -20, 30, -40, 50, -60)
	saidTo(t, "a weighed sum", said(impl.WeighGrids(a, b, 2, 0.5)), ground(2, 3, 5, -8, 19, -14, 33, -20))
	saidTo(t, "the first grid", said(impl.WeighGrids(a, b, 1, 0)), ground(2, 3, 0, 1, 2, 3, 4, 5))
	saidTo(t, "the second grid", said(impl.WeighGrids(a, b, 0, 1)), b)
	saidTo(t, "a difference", said(impl.WeighGrids(a, a, 1, -1)), level(2, 3, 0))
	saidTo(t, "zeros with signs", said(impl.WeighGrids(level(2, 2, minusZero()), level(2, 2, 0), 1, -1)), level(2, 2, minusZero()))
	saidTo(t, "products of zeros and signs", said(impl.WeighGrids(level(2, 2, 1), level(2, 2, -1), minusZero(), 0)), level(2, 2, minusZero()))
	saidTo(t, "subnormal products", said(impl.WeighGrids(level(2, 2, num(3)), level(2, 2, num(1)), 0.5, 0.5)), level(2, 2, num(2)))
	// Both products are rounded before they are added: exactly, the sum would be 2 to the power of -46.
	x := num(0x3f800001)
	saidTo(t, "products that are rounded", said(impl.WeighGrids(level(2, 2, x), level(2, 2, -1), x, num(0x3f800002))), level(2, 2, 0))
	saidTo(t, "the largest sum", said(impl.WeighGrids(level(2, 2, largest()), level(2, 2, largest()), 0.5, 0.5)), level(2, 2, largest()))
	failing(t, "a sum that is too large", said(impl.WeighGrids(level(2, 2, largest()), level(2, 2, largest()), 0.5, above(0.5))))
	failing(t, "products that are too large", said(impl.WeighGrids(level(2, 2, largest()), level(2, 2, largest()), 2, -2)))
	failing(t, "one sum that is too large", said(impl.WeighGrids(withHeight(level(2, 2, 1), 3, largest()), level(2, 2, 1), 2, 1)))
	failing(t, "a grid and a wider one", said(impl.WeighGrids(a, level(3, 3, 1), 1, 1)))
	failing(t, "a grid and a higher one", said(impl.WeighGrids(a, level(2, 4, 1), 1, 1)))
	failing(t, "a grid and one that lies on its side", said(impl.WeighGrids(a, level(3, 2, 1), 1, 1)))
	for _, z := range wrongNumbers() {
		for _, g := range []impl.Grid{a, level(2, 3, 0)} {
			failing(t, "a weight that is not finite", said(impl.WeighGrids(g, a, z, 1)))
			failing(t, "a weight that is not finite", said(impl.WeighGrids(a, g, 1, z)))
		}
	}
	for _, g := range wrongGrids() {
		failing(t, "a wrong grid", said(impl.WeighGrids(g, ground(g.Wide, g.High, 1, 2, 3, 4), 1, 1)))
		failing(t, "a wrong grid", said(impl.WeighGrids(level(2, 2, 1), g, 1, 1)))
		failing(t, "a wrong grid", said(impl.WeighGrids(g, level(2, 2, 1), 1, 1)))
		failing(t, "wrong grids", said(impl.WeighGrids(g, g, 0, 0)))
	}
}

func TestHeightAt(t *testing.T) {
	height := func(z complex64, want float32, g impl.Grid) {
		t.Helper()
		succeeds(t, fmt.Sprintf("HeightAt %v of %v", z, g), want)(impl.HeightAt(g, z))
	}
	for n, g := range someGrids() {
		for i, want := range g.Heights {
			z := complex(float32(int64(i)%g.Wide), float32(int64(i)/g.Wide))
			if got, ok := impl.HeightAt(g, z); !ok || got != want {
				t.Errorf("the height of grid %d at %v is %v, %v", n, z, got, ok)
			}
		}
	}
	g := ground(3, 3, 0, 1, 10, 2, 5, 20, 30, 40, 80)
	height(0.5+0.5i, 2, g)
	height(0.25+0.5i, 1.5, g)
	height(0.5+0.25i, 1.25, g)
	height(1.5+0.5i, 9, g)
	height(0.5+1.5i, 19.25, g)
	height(1.75+1.25i, 0.75*16.25+0.25*70, g)
	height(2+0.5i, 15, g)
	height(0.5+2i, 35, g)
	height(2+2i, 80, g)
	height(complex(minusZero(), minusZero()), 0, g)
	height(complex(below(2), 2), 80, g)
	height(complex(below(1), 0), below(1), g)
	height(complex(num(1), 0), num(1), g)
	// A height that is a zero with a sign loses it beside one that is greater than 0, but not beside one that is less.
	height(0, 0, ground(2, 2, minusZero(), 1, 1, 1))
	height(0, minusZero(), ground(2, 2, minusZero(), -1, -1, -1))
	height(0.5+0.5i, minusZero(), level(2, 2, minusZero()))
	height(0.5+0.5i, largest(), level(2, 2, largest()))
	height(0.3+0.7i, 0, level(2, 2, 0))
	height(15+15i, 255, func() impl.Grid {
		g := level(16, 16, 0)
		for i := range g.Heights {
			g.Heights[i] = float32(i)
		}
		return g
	}())
	wrong := []complex64{complex(above(2), 0), complex(0, above(2)), complex(-num(1), 0), complex(0, -num(1)), 3, 3i, -1, -1i, 1e30, complex(0, -largest())}
	for _, z := range append(wrong, wrongPoints()...) {
		fails[float32](t, fmt.Sprint("HeightAt ", z))(impl.HeightAt(g, z))
	}
	// The sides are not exchanged.
	wide := ground(4, 2, 0, 1, 2, 3, 4, 5, 6, 7)
	height(2.5+0.5i, 4.5, wide)
	fails[float32](t, "HeightAt above a wide grid")(impl.HeightAt(wide, 0.5+1.5i))
	for _, g := range wrongGrids() {
		fails[float32](t, "HeightAt of a wrong grid")(impl.HeightAt(g, 0))
		fails[float32](t, "HeightAt of a wrong grid")(impl.HeightAt(g, 0.5+0.5i))
	}
}

func TestSlopeOfGrid(t *testing.T) {
	g := ground(3, 4, 0, 1, 10, 2, 5, 20, 30, 40, 80, 90, 70, 60)
	wants := []complex64{1 + 2i, 5 + 4i, 9 + 10i, 3 + 15i, 9 + 19.5i, 15 + 35i, 10 + 44i, 25 + 32.5i, 40 + 20i, -20 + 60i, -15 + 30i, -10 - 20i}
	for i, want := range wants {
		succeeds(t, fmt.Sprint("the slope at ", i), want)(impl.SlopeOfGrid(g, int64(i)))
	}
	for i := range int64(4) {
		succeeds(t, fmt.Sprint("the slope of a small grid at ", i), complex64(1+2i))(impl.SlopeOfGrid(ground(2, 2, 0, 1, 2, 3), i))
		succeeds(t, fmt.Sprint("the slope of a flat grid at ", i), complex64(0))(impl.SlopeOfGrid(level(2, 2, -9), i))
	}
	succeeds(t, "the slope of zeros with signs", complex(minusZero(), 0))(impl.SlopeOfGrid(ground(2, 2, 0, minusZero(), 0, 0), 0))
	// Half of the least number is rounded to the even zero.
	succeeds(t, "the slope of subnormal numbers", complex(float32(0), num(1)))(impl.SlopeOfGrid(ground(3, 2, 0, 0, num(1), 0, num(1), 0), 1))
	flat, half := level(4, 4, 0), largest()/2
	for i := range int64(16) {
		x, y := i%4, i/4
		across := [2]int64{max(x-1, 0) + 4*y, min(x+1, 3) + 4*y}
		upwards := [2]int64{x + 4*max(y-1, 0), x + 4*min(y+1, 3)}
		for _, ends := range [][2]int64{across, upwards} {
			steep := withHeight(withHeight(flat, ends[0], half), ends[1], -half)
			if _, ok := impl.SlopeOfGrid(steep, i); !ok {
				t.Errorf("no slope at %d from %d to %d", i, ends[0], ends[1])
			}
			// The difference overflows, even where half of it would not.
			fails[complex64](t, fmt.Sprint("a slope that is too steep at ", i))(impl.SlopeOfGrid(withHeight(steep, ends[0], largest()), i))
		}
	}
	for _, i := range wrongIndices(g) {
		fails[complex64](t, fmt.Sprint("the slope at ", i))(impl.SlopeOfGrid(g, i))
	}
	for _, g := range wrongGrids() {
		fails[complex64](t, "the slope of a wrong grid")(impl.SlopeOfGrid(g, 0))
	}
}

func TestShadeOf(t *testing.T) {
	slope := ground(2, 2, 0, 1, 0, 1)
	turned := ground(2, 2, 0, 0, 1, 1)
	root := impl.RootNumber(2)
	shade := func(what string, want float32, g impl.Grid, way impl.Way) {
		t.Helper()
		succeeds(t, what, want)(impl.ShadeOf(g, 0, way))
	}
	shade("a flat grid under light from above", 1, level(2, 2, 5), impl.Way{Z: 3})
	shade("a flat grid under light from below", 0, level(2, 2, 5), impl.Way{Z: -3})
	shade("a flat grid under light from the side", 0, level(2, 2, 5), impl.Way{X: 3})
	shade("a flat grid under slanting light", 0.8, level(2, 2, 5), impl.Way{X: 3, Z: 4})
	shade("a slope under light from above", 1/root, slope, impl.Way{Z: 1})
	shade("a slope under light that it faces", 2/root/root, slope, impl.Way{X: -1, Z: 1})
	shade("a slope under light along it", 0, slope, impl.Way{X: 1, Z: 1})
	shade("a slope under light from its back", 0, slope, impl.Way{X: 2, Z: 1})
	shade("a slope under light from its left", 1/root, slope, impl.Way{X: -5})
	shade("a slope under light from beside", 0, slope, impl.Way{Y: -5})
	shade("a slope upwards under light from below it", 1/root, turned, impl.Way{Y: -5})
	shade("a slope upwards under light that it faces", 2/root/root, turned, impl.Way{Y: -1, Z: 1})
	shade("a slope upwards under light from its back", 0, turned, impl.Way{Y: 2, Z: 1})
	shade("a zero with a sign, which is not less than 0", minusZero(), level(2, 2, 5), impl.Way{X: 1, Y: 1, Z: minusZero()})
	// The power of the slope overflows, so that what is less than 0 becomes a zero with a sign.
	shade("a cliff under light from its back", minusZero(), ground(2, 2, 0, 1e30, 0, 1e30), impl.Way{X: 1})
	shade("a cliff under light that it faces", 0, ground(2, 2, 0, 1e30, 0, 1e30), impl.Way{X: -1})
	shade("a steep slope", 1, ground(2, 2, 0, 1e10, 0, 1e10), impl.Way{X: -1})
	shade("the shortest way", 1, level(2, 2, 5), impl.Way{Z: num(0x1f000000)})
	none := []impl.Way{{}, {X: minusZero(), Y: minusZero(), Z: minusZero()}, {X: 1e-30, Y: 1e-30, Z: 1e-30}, {Z: num(1)}, {Z: -1e-30}, {X: 1e-30}, {X: 2e19}, {Y: largest()}, {Z: -largest()}, {X: 1.5e19, Y: 1.5e19}}
	for _, x := range wrongNumbers() {
		none = append(none, impl.Way{X: x}, impl.Way{Y: x}, impl.Way{Z: x}, impl.Way{X: x, Y: 1, Z: 1}, impl.Way{X: 1, Y: x, Z: 1}, impl.Way{X: 1, Y: 1, Z: x})
	}
	for _, way := range none {
		fails[float32](t, fmt.Sprint("light from ", way))(impl.ShadeOf(slope, 0, way))
		fails[[]float32](t, fmt.Sprint("light from ", way, " on all"))(impl.ShadesShared(slope, way, 1))
	}
	fails[float32](t, "light on a cliff that overflows")(impl.ShadeOf(ground(2, 2, 0, largest(), 0, 0), 0, impl.Way{X: 1e10, Y: 1e10}))
	fails[float32](t, "light on a slope that fails")(impl.ShadeOf(ground(2, 2, -largest(), largest(), 0, 0), 0, impl.Way{Z: 1}))
	for _, i := range wrongIndices(slope) {
		fails[float32](t, fmt.Sprint("light at ", i))(impl.ShadeOf(slope, i, impl.Way{Z: 1}))
	}
	for _, g := range wrongGrids() {
		fails[float32](t, "light on a wrong grid")(impl.ShadeOf(g, 0, impl.Way{Z: 1}))
	}
}

func TestShadesShared(t *testing.T) {
	ways := []impl.Way{{Z: 1}, {X: 1, Y: 2, Z: 3}, {X: -1}, {X: 1e10, Y: -1e10, Z: 1e10}}
	for n, g := range append(someGrids(), oddGrids()...) {
		for _, way := range ways {
			want, all := make([]float32, len(g.Heights)), true
			for i := range want {
				shade, ok := impl.ShadeOf(g, int64(i), way)
				want[i], all = shade, all && ok
			}
			for workers := int64(1); workers <= impl.MaxWorkers; workers++ {
				what := fmt.Sprintf("%d workers on grid %d under light from %v", workers, n, way)
				if all {
					succeeds(t, what, want)(impl.ShadesShared(g, way, workers))
				} else {
					fails[[]float32](t, what)(impl.ShadesShared(g, way, workers))
				}
			}
		}
	}
	g := hills(4, 5, 2)
	for _, workers := range []int64{0, 9, -1, 1 << 32, 1<<32 + 1, math.MaxInt64, math.MinInt64} {
		fails[[]float32](t, fmt.Sprint(workers, " workers"))(impl.ShadesShared(g, impl.Way{Z: 1}, workers))
	}
	for i := range int64(20) {
		// Two places beside this one have no slope.
		steep := withHeight(withHeight(g, i, largest()), (i+2)%20, -largest())
		if i%4 < 2 {
			fails[[]float32](t, fmt.Sprint("a cliff at ", i))(impl.ShadesShared(steep, impl.Way{Z: 1}, i%8+1))
		}
	}
	for _, g := range wrongGrids() {
		fails[[]float32](t, "light on a wrong grid")(impl.ShadesShared(g, impl.Way{Z: 1}, 2))
	}
}
