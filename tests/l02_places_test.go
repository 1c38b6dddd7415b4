package tests

import (
	"fmt"
	"math"
	"slices"
	"testing"

	"loop.example/g01341/impl"
)

func TestValidPlaces(t *testing.T) {
	for _, p := range allPlaces() {
		if !impl.ValidPlace(p) {
			t.Errorf("%v is not valid", p)
		}
	}
	for _, p := range wrongPlaces() {
		if impl.ValidPlace(p) {
			t.Errorf("%v is valid", p)
		}
	}
}

func TestSamePlacesAreToldByBits(t *testing.T) {
	numbers := oddNumbers()
	for i, a := range numbers {
		for k, b := range numbers {
			// The last three are not-a-numbers.
			same := i == k || i >= len(numbers)-3 && k >= len(numbers)-3
			if impl.SamePlace(at(a, 1), at(b, 1)) != same || impl.SamePlace(at(1, a), at(1, b)) != same {
				t.Errorf("places with %08x and %08x are told wrongly", math.Float32bits(a), math.Float32bits(b))
			}
		}
	}
	if impl.SamePlace(at(0, 0.25), at(0.25, 0)) {
		t.Error("North and East are mixed")
	}
}

func TestListsOfPlaces(t *testing.T) {
	for n, want := range map[int]bool{0: false, 1: true, 2: true, 63: true, 64: true, 65: false, 500: false} {
		if impl.ArePlaces(make([]impl.Place, n)) != want {
			t.Errorf("ArePlaces of %d places is %v", n, !want)
		}
	}
	for _, wrong := range wrongPlaces() {
		for _, i := range []int{0, 5, 9} {
			list := ordinaryPlaces()[:10]
			list[i] = wrong
			if impl.ArePlaces(list) {
				t.Errorf("ArePlaces with %v at %d", wrong, i)
			}
		}
	}
	if impl.ArePlaces(nil) || impl.ArePlaces([]impl.Place{}) {
		t.Error("no places are places")
	}
}

func TestWrapEast(t *testing.T) {
	cases := map[float32]float32{0: 0, 0.25: 0.25, 0.5: -0.5, -0.5: -0.5, 0.75: -0.25, -0.75: 0.25, 1: 0, -1: 0, 1.5: -0.5, -1.5: -0.5, 2.25: 0.25, 1000: 0, -1000: 0, 999.5: -0.5, -999.5: -0.5, below(0.5): -0.5, below(-0.5): below(-0.5), above(-0.5): 0.5 - 0x1p-24, num(1): num(1), -num(1): -num(1), below(below(0.5)): below(below(0.5))}
	for x, want := range cases {
		succeeds(t, fmt.Sprintf("WrapEast of %v", x), want)(impl.WrapEast(x))
	}
	succeeds(t, "WrapEast of -0", minusZero())(impl.WrapEast(minusZero()))
	for _, x := range []float32{above(1000), above(-1000), math.MaxFloat32, float32(math.Inf(1)), float32(math.Inf(-1)), num(0x7fc00000)} {
		fails[float32](t, fmt.Sprintf("WrapEast of %v", x))(impl.WrapEast(x))
	}
	for i := -1000 * 64; i <= 1000*64; i++ {
		x := float32(i) / 64
		east, ok := impl.WrapEast(x)
		if turns := float64(x) - float64(east); !ok || east < -0.5 || east >= 0.5 || turns != math.Trunc(turns) {
			t.Fatalf("WrapEast of %v: got %v, %v", x, east, ok)
		}
	}
}

func exactWay(p impl.Place) [3]float64 {
	north, east := 2*math.Pi*float64(p.North), 2*math.Pi*float64(p.East)
	return [3]float64{math.Cos(north) * math.Cos(east), math.Cos(north) * math.Sin(east), math.Sin(north)}
}

func TestWaysAndPlaces(t *testing.T) {
	for _, p := range allPlaces() {
		way, ok := impl.WayOf(p)
		exact := exactWay(p)
		for i, x := range []float32{way.X, way.Y, way.Z} {
			if !ok || math.Abs(float64(x)-exact[i]) > 4e-7 {
				t.Errorf("WayOf %v: got %v, want %v, nearly", p, way, exact)
			}
		}
		back, ok := impl.PlaceOfWay(way)
		if exactApart(p, back) > 1e-7 || !ok {
			t.Errorf("PlaceOfWay of the way of %v: got %v, %v", p, back, ok)
		}
	}
	// The cosine of a quarter of a turn is the sine of a half: -0.
	succeeds(t, "WayOf the pole", impl.Way{X: minusZero(), Y: minusZero(), Z: 1})(impl.WayOf(at(0.25, 0)))
	succeeds(t, "WayOf the other pole", impl.Way{X: 0, Y: 0, Z: -1})(impl.WayOf(at(-0.25, 0)))
	succeeds(t, "WayOf the east", impl.Way{X: minusZero(), Y: 1, Z: 0})(impl.WayOf(at(0, 0.25)))
	succeeds(t, "WayOf the border", impl.Way{X: -1, Y: minusZero(), Z: minusZero()})(impl.WayOf(at(minusZero(), -0.5)))
}

func TestProductsOfWays(t *testing.T) {
	big := float32(math.MaxFloat32)
	a, b := impl.Way{X: 1, Y: 2, Z: 3}, impl.Way{X: 4, Y: -5, Z: 6}
	succeeds(t, "DotWays", float32(12))(impl.DotWays(a, b))
	succeeds(t, "CrossWays", impl.Way{X: 27, Y: 6, Z: -13})(impl.CrossWays(a, b))
	succeeds(t, "CrossWays, the other way round", impl.Way{X: -27, Y: -6, Z: 13})(impl.CrossWays(b, a))
	succeeds(t, "LongOfWay", float32(7))(impl.LongOfWay(impl.Way{X: -2, Y: 3, Z: -6}))
	succeeds(t, "LongOfWay of 0", float32(0))(impl.LongOfWay(impl.Way{}))
	// Sums go in order: the third product is lost only behind the sum of the others.
	succeeds(t, "DotWays with a large one", float32(1))(impl.DotWays(impl.Way{X: 1 << 30, Y: -(1 << 30), Z: 1}, impl.Way{X: 1, Y: 1, Z: 1}))
	succeeds(t, "DotWays with a large one behind", float32(0))(impl.DotWays(impl.Way{X: 1 << 30, Y: 1, Z: -(1 << 30)}, impl.Way{X: 1, Y: 1, Z: 1}))
	// Each product is rounded before it is added.
	x := above(1)
	succeeds(t, "DotWays, rounded", float32(0))(impl.DotWays(impl.Way{X: x, Y: 1, Z: 0}, impl.Way{X: x, Y: -float32(x * x), Z: 0}))
	succeeds(t, "CrossWays, rounded", impl.Way{Z: 0})(impl.CrossWays(impl.Way{X: x, Y: 1}, impl.Way{X: float32(x * x), Y: x}))
	succeeds(t, "LongOfWay, underflowed", float32(0))(impl.LongOfWay(impl.Way{X: 1e-30, Y: 1e-30, Z: 1e-30}))
	fails[float32](t, "DotWays that is infinite")(impl.DotWays(impl.Way{X: big}, impl.Way{X: 2}))
	fails[float32](t, "DotWays that is no number")(impl.DotWays(impl.Way{X: big, Y: big}, impl.Way{X: 2, Y: -2}))
	fails[float32](t, "LongOfWay that is infinite")(impl.LongOfWay(impl.Way{X: big}))
	fails[float32](t, "LongOfWay with squares that are infinite")(impl.LongOfWay(impl.Way{X: 1.5e19, Y: 1.5e19}))
	for _, w := range []impl.Way{{Y: big}, {Z: big}, {X: big}} {
		fails[impl.Way](t, fmt.Sprintf("CrossWays of %v", w))(impl.CrossWays(w, impl.Way{X: 2, Y: 2, Z: 2}))
	}
}

func TestPlacesOfWays(t *testing.T) {
	succeeds(t, "PlaceOfWay", at(0.125, 0.25))(impl.PlaceOfWay(impl.Way{Y: 3, Z: 3}))
	succeeds(t, "PlaceOfWay up", at(0.25, 0))(impl.PlaceOfWay(impl.Way{Z: 1e-10}))
	succeeds(t, "PlaceOfWay down", at(-0.25, 0))(impl.PlaceOfWay(impl.Way{X: minusZero(), Z: -5}))
	succeeds(t, "PlaceOfWay of the border", at(0, -0.5))(impl.PlaceOfWay(impl.Way{X: -1}))
	succeeds(t, "PlaceOfWay of the border from below", at(0, -0.5))(impl.PlaceOfWay(impl.Way{X: -1, Y: minusZero()}))
	fails[impl.Place](t, "PlaceOfWay of 0")(impl.PlaceOfWay(impl.Way{}))
	fails[impl.Place](t, "PlaceOfWay of -0")(impl.PlaceOfWay(impl.Way{X: minusZero(), Y: minusZero(), Z: minusZero()}))
	fails[impl.Place](t, "PlaceOfWay of a way with a long of 0")(impl.PlaceOfWay(impl.Way{X: 1e-30}))
	fails[impl.Place](t, "PlaceOfWay of a way with a long that is infinite")(impl.PlaceOfWay(impl.Way{X: 1, Z: 1e20}))
}

func TestWaysMustBeFinite(t *testing.T) {
	for _, x := range []float32{float32(math.Inf(1)), float32(math.Inf(-1)), num(0x7fc00000), num(0xffc00001)} {
		for _, name := range []string{"DotWays", "CrossWays", "LongOfWay", "PlaceOfWay"} {
			for i := range ofNumbers[name].n {
				n := slices.Repeat([]float32{0}, ofNumbers[name].n)
				n[(i+1)%len(n)] = 1
				n[i] = x
				if got := callBall(name, n, nil); got != "fails" {
					t.Errorf("%s of %v: got %s", name, n, got)
				}
			}
		}
	}
}
