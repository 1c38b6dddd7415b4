package tests

import (
	"fmt"
	"math"
	"testing"

	"loop.example/g01341/impl"
)

const exactRound = 2 * math.Pi

// pi is half of a round, as the chapter tells it.
const pi = float32(6.2831855) / 2

func TestValidMaps(t *testing.T) {
	for _, m := range append(allMaps(), around(0, 0.25, -0.5, 0.24), around(6, -0.25, below(0.5), -0.24)) {
		if !impl.ValidMap(m) {
			t.Errorf("%v is not valid", m)
		}
	}
	for _, m := range wrongMaps() {
		if impl.ValidMap(m) {
			t.Errorf("%v is valid", m)
		}
	}
}

func TestSameMapsAreToldByBits(t *testing.T) {
	numbers := oddNumbers()
	for i, a := range numbers {
		for k, b := range numbers {
			// The last three are not-a-numbers.
			same := i == k || i >= len(numbers)-3 && k >= len(numbers)-3
			if impl.SameMap(around(2, a, 1, 1), around(2, b, 1, 1)) != same || impl.SameMap(around(2, 1, a, 1), around(2, 1, b, 1)) != same || impl.SameMap(around(2, 1, 1, a), around(2, 1, 1, b)) != same {
				t.Errorf("maps with %08x and %08x are told wrongly", math.Float32bits(a), math.Float32bits(b))
			}
		}
	}
	for _, kind := range oddIntegers() {
		if !impl.SameMap(plain(kind), plain(kind)) || impl.SameMap(plain(kind), plain(kind^1)) || impl.SameMap(plain(kind), plain(kind^(1<<32))) {
			t.Errorf("maps of the kind %d are told wrongly", kind)
		}
	}
	if impl.SameMap(around(1, 0.1, 0.2, 0), around(1, 0.2, 0.1, 0)) || impl.SameMap(around(1, 0.1, 0, 0.2), around(1, 0.2, 0, 0.1)) {
		t.Error("numbers of maps are mixed")
	}
}

// exactPoint is the point of a place by the formulas of these projections, as they are known.
func exactPoint(m impl.Map, p impl.Place) (x, y float64) {
	east, north := exactRound*exactEast(m, p), exactRound*float64(p.North)
	c := math.Cos(exactRound * float64(m.First))
	switch m.Kind {
	case impl.MapPlate:
		return east * c, north
	case impl.MapMercator:
		return east, math.Asinh(math.Tan(north))
	case impl.MapEven:
		return east * c, math.Sin(north) / c
	case impl.MapWave:
		return east * math.Cos(north), north
	}
	middle := exactRound * float64(m.Middle.North)
	right := math.Cos(north) * math.Sin(east)
	up := math.Cos(middle)*math.Sin(north) - math.Sin(middle)*math.Cos(north)*math.Cos(east)
	far := exactRound * exactApart(m.Middle, p)
	long := map[int64]float64{impl.MapStereo: 2 * math.Tan(far/2), impl.MapEqual: 2 * math.Sin(far/2), impl.MapFar: far}[m.Kind]
	wide := math.Hypot(right, up)
	return long * right / wide, long * up / wide
}

func TestPointsAreWhereMapsHaveThem(t *testing.T) {
	for _, m := range allMaps() {
		for _, p := range ordinaryPlaces() {
			if !isInside(m, p) || exactApart(m.Middle, p) < 1e-6 {
				continue
			}
			z, ok := impl.PointOf(m, p)
			x, y := exactPoint(m, p)
			// Far from the middle of a stereo map, small errors are stretched.
			by := 5e-6 * (1 + x*x + y*y)
			if !ok || !isNearly(real(z), x, by) || !isNearly(imag(z), y, by) {
				t.Errorf("PointOf %v on %v: got %v, %v, want %v, %v, nearly", p, m, z, ok, x, y)
			}
		}
	}
}

// Places on both sides of the border of the east, and on the border opposite to the middle of a map.
func TestPointsAtTheBorderOfTheEast(t *testing.T) {
	cases := []struct {
		middle, east, want float32
	}{
		{0, -0.5, -0.5}, {0, below(0.5), -0.5}, {0, below(below(0.5)), below(below(0.5))}, {0, below(-0.5), below(-0.5)},
		{0.25, -0.5, 0.25}, {0.25, -0.25, -0.5}, {0.25, -0.375, 0.375}, {-0.25, 0.25, -0.5}, {-0.25, 0.375, -0.375},
		{-0.5, 0.25, -0.25}, {-0.5, -0.5, 0}, {-0.5, 0, -0.5}, {-0.5, minusZero(), -0.5}, {-0.5, below(0.5), 0},
		{below(0.5), -0.5, 0}, {0.375, -0.375, 0.25}, {-0.375, 0.375, -0.25}, {0, minusZero(), minusZero()}, {minusZero(), minusZero(), 0},
		{0, num(1), num(1)}, {num(1), 0, -num(1)},
	}
	for _, c := range cases {
		for _, kind := range []int64{impl.MapPlate, impl.MapMercator, impl.MapEven, impl.MapWave} {
			want := complex(float32(6.2831855)*c.want, 0)
			succeeds(t, fmt.Sprintf("kind %d, the east %v around %v", kind, c.east, c.middle), want)(impl.PointOf(around(kind, 0.1, c.middle, 0), at(0, c.east)))
		}
	}
}

func TestPointsOfPoles(t *testing.T) {
	high := pi / 2
	for _, sign := range []float32{1, -1} {
		pole := at(sign*0.25, 0.25)
		succeeds(t, "a plate", complex(high, sign*high))(impl.PointOf(plain(impl.MapPlate), pole))
		succeeds(t, "an even map", complex(high, sign))(impl.PointOf(plain(impl.MapEven), pole))
		z, ok := impl.PointOf(plain(impl.MapWave), pole)
		if !ok || imag(z) != sign*high || impl.LongOf(complex(real(z), 0)) > 1e-6 {
			t.Errorf("a wave has the pole at %v, %v", z, ok)
		}
		for _, m := range mapsOf(impl.MapMercator) {
			fails[complex64](t, "a map of Mercator")(impl.PointOf(m, pole))
		}
		for kind, long := range map[int64]float64{impl.MapStereo: 2, impl.MapEqual: math.Sqrt2, impl.MapFar: math.Pi / 2} {
			z, ok := impl.PointOf(plain(kind), pole)
			if !ok || !isNearly(real(z), 0, 1e-6) || !isNearly(imag(z), float64(sign)*long, 1e-6) {
				t.Errorf("kind %d has the pole at %v, %v", kind, z, ok)
			}
		}
	}
}

// Next to the poles, a map of Mercator has places as long as StretchNorth has a number for them.
func TestMercatorNextToPoles(t *testing.T) {
	seen := map[bool]int{}
	for north := below(0.25); north > 0.2499; north = below(north - 3e-7) {
		for _, p := range []impl.Place{at(north, 0), at(-north, 0)} {
			stretched, want := impl.StretchNorth(p.North)
			z, ok := impl.PointOf(plain(impl.MapMercator), p)
			if ok != want || imag(z) != float32(6.2831855)*stretched {
				t.Errorf("PointOf %v: got %v, %v", p, z, ok)
			}
			seen[ok]++
		}
	}
	fails[complex64](t, "nearly the pole")(impl.PointOf(plain(impl.MapMercator), at(below(0.25), 0)))
	if seen[true] == 0 || seen[false] == 0 {
		t.Errorf("one side only: %v", seen)
	}
}

// A stereo map has the places that are at most 0.45 turns from its middle.
func TestEdgeOfStereoMaps(t *testing.T) {
	seen := map[int]int{}
	for _, m := range []impl.Map{plain(impl.MapStereo), around(impl.MapStereo, 0.1, 0.3, 0), around(impl.MapStereo, 0.25, 0, 0)} {
		for i := range 400 {
			course := float32(i) / 400
			for k := range 9 {
				p, _ := impl.GoFrom(m.Middle, course, 0.45+float32(k-4)*3e-8)
				apart, _ := impl.ApartOf(m.Middle, p)
				z, ok := impl.PointOf(m, p)
				if ok != (apart <= 0.45) || ok && !isNearly(impl.LongOf(z), 2*math.Tan(math.Pi*0.45), 1e-4) {
					t.Errorf("%v, which is %v away, is at %v, %v", p, apart, z, ok)
				}
				switch {
				case apart == 0.45:
					seen[0]++
				case apart < 0.45:
					seen[-1]++
				default:
					seen[1]++
				}
			}
		}
		opposite, _ := impl.OppositeOf(m.Middle)
		fails[complex64](t, "the opposite place")(impl.PointOf(m, opposite))
	}
	if seen[-1] == 0 || seen[0] == 0 || seen[1] == 0 {
		t.Errorf("not all sides: %v", seen)
	}
}

// Equal maps and far ones have all places, up to the opposite one.
func TestEdgeOfRoundMaps(t *testing.T) {
	for kind, long := range map[int64]float64{impl.MapEqual: 2, impl.MapFar: math.Pi} {
		for _, m := range mapsOf(kind) {
			opposite, _ := impl.OppositeOf(m.Middle)
			z, ok := impl.PointOf(m, opposite)
			if !ok || !isNearly(impl.LongOf(z), long, 1e-5) {
				t.Errorf("%v has the opposite place at %v, %v", m, z, ok)
			}
		}
	}
	succeeds(t, "from pole to pole", complex64(2i))(impl.PointOf(around(impl.MapEqual, -0.25, 0, 0), at(0.25, 0)))
}

// led checks what the point of a map leads back to.
func led(t *testing.T, m impl.Map, z complex64, want impl.Place) {
	t.Helper()
	succeeds(t, fmt.Sprintf("PlaceOf %v on %v", z, m), want)(impl.PlaceOf(m, z))
}

// nowhere checks that a point of a map leads to no place.
func nowhere(t *testing.T, m impl.Map, z complex64) {
	t.Helper()
	fails[impl.Place](t, fmt.Sprintf("PlaceOf %v on %v", z, m))(impl.PlaceOf(m, z))
}

func TestEdgesOfFlatMaps(t *testing.T) {
	for _, kind := range []int64{impl.MapPlate, impl.MapMercator, impl.MapEven, impl.MapWave} {
		m := plain(kind)
		led(t, m, complex(pi, 0), at(0, -0.5))
		led(t, m, complex(-pi, 0), at(0, -0.5))
		led(t, m, complex(below(below(pi)), 0), at(0, below(below(pi))/6.2831855))
		nowhere(t, m, complex(above(above(pi)), 0))
		nowhere(t, m, complex(-above(above(pi)), 0))
		nowhere(t, m, complex(math.MaxFloat32, 0))
		// The place is behind the border of the east, but not behind that of the map.
		m.Middle.East = 0.375
		led(t, m, complex(pi/2, 0), at(0, -0.375))
		led(t, m, complex(pi/4, 0), at(0, -0.5))
		led(t, m, complex(pi, 0), at(0, -0.125))
		m.Middle.East = -0.5
		led(t, m, complex(-pi, 0), at(0, 0))
		led(t, m, complex(-pi/2, 0), at(0, 0.25))
		led(t, m, complex(pi, 0), at(0, 0))
	}
}

func TestNorthsOfFlatMaps(t *testing.T) {
	high := pi / 2
	led(t, plain(impl.MapPlate), complex(0, high), at(0.25, 0))
	led(t, plain(impl.MapPlate), complex(0, -high), at(-0.25, 0))
	led(t, plain(impl.MapPlate), complex(0, minusZero()), at(minusZero(), 0))
	nowhere(t, plain(impl.MapPlate), complex(0, above(above(high))))
	nowhere(t, plain(impl.MapPlate), complex(0, -above(above(high))))
	led(t, plain(impl.MapEven), 1i, at(0.25, 0))
	led(t, plain(impl.MapEven), -1i, at(-0.25, 0))
	nowhere(t, plain(impl.MapEven), complex(0, above(1)))
	nowhere(t, plain(impl.MapEven), complex(0, -above(1)))
	nowhere(t, plain(impl.MapEven), complex(0, math.MaxFloat32))
	for _, first := range []float32{0.24, -0.24, 0.1} {
		m := around(impl.MapEven, 0, 0, first)
		c := impl.SineTurns(first + 0.25)
		edge := 1 / c
		for edge*c <= 1 {
			edge = above(edge)
		}
		nowhere(t, m, complex(0, edge))
		for edge*c > 1 {
			edge = below(edge)
		}
		led(t, m, complex(0, edge), at(impl.AngleTurns(edge*c, impl.RootNumber(1-float32((edge*c)*(edge*c)))), 0))
	}
	mercator := plain(impl.MapMercator)
	led(t, mercator, 20i, at(0.25, 0))
	led(t, mercator, 88i, at(0.25, 0))
	led(t, mercator, -88i, at(-0.25, 0))
	led(t, mercator, -300i, at(-0.25, 0))
	led(t, mercator, complex(0, -math.MaxFloat32), at(-0.25, 0))
	// e to the power of these is infinite.
	for _, y := range []float32{89, 200, above(200), 1000, math.MaxFloat32} {
		nowhere(t, mercator, complex(0, y))
	}
}

// Next to the poles of a wave, where a round is at most 0.001 long, points lead nowhere.
func TestPolesOfWaves(t *testing.T) {
	m := plain(impl.MapWave)
	seen := map[bool]int{}
	for y := pi/2 + 1e-5; y > 1.569; y = below(y - 5e-7) {
		for _, sign := range []float32{1, -1} {
			north := sign * y / 6.2831855
			wide := 6.2831855 * impl.SineTurns(north+0.25)
			for _, x := range []float32{0, 0.0004, -0.001, 0.002} {
				p, ok := impl.PlaceOf(m, complex(x, sign*y))
				east := x / wide
				want := wide > 0.001 && east >= -0.5 && east <= 0.5
				if ok != want || ok && (p.North != north || p.East != east) {
					t.Fatalf("PlaceOf %v: got %v, %v", complex(x, sign*y), p, ok)
				}
				seen[ok]++
			}
		}
	}
	if seen[true] == 0 || seen[false] == 0 {
		t.Errorf("one side only: %v", seen)
	}
	for _, y := range []float32{pi / 2, -pi / 2, pi, -pi, 2 * pi, 100, math.MaxFloat32} {
		nowhere(t, m, complex(0, y))
	}
}

func TestEdgesOfRoundMaps(t *testing.T) {
	for _, turned := range []complex64{1, -1, 1i, -1i} {
		for _, middle := range []impl.Place{{}, at(0.1, 0.3), at(0.25, 0)} {
			opposite, _ := impl.OppositeOf(middle)
			for kind, edge := range map[int64]float32{impl.MapEqual: 2, impl.MapFar: pi} {
				m := impl.Map{Kind: kind, Middle: middle}
				p, ok := impl.PlaceOf(m, impl.ScaleComplex(turned, edge))
				if !ok || exactApart(p, opposite) > 1e-6 {
					t.Errorf("the edge of %v leads to %v, %v", m, p, ok)
				}
				nowhere(t, m, impl.ScaleComplex(turned, above(above(edge))))
				nowhere(t, m, impl.ScaleComplex(turned, math.MaxFloat32))
			}
			m := impl.Map{Kind: impl.MapStereo, Middle: middle}
			p, ok := impl.PlaceOf(m, impl.ScaleComplex(turned, math.MaxFloat32))
			if !ok || exactApart(p, opposite) > 1e-6 {
				t.Errorf("far out, %v leads to %v, %v", m, p, ok)
			}
			q, ok := impl.PlaceOf(m, impl.ScaleComplex(turned, 2))
			if !ok || !isNearly(float32(exactApart(q, middle)), 0.25, 1e-6) {
				t.Errorf("2 of %v leads to %v, %v", m, q, ok)
			}
		}
	}
	nowhere(t, plain(impl.MapEqual), complex(0, above(2)))
	nowhere(t, plain(impl.MapEqual), complex(1.5, 1.5))
	nowhere(t, plain(impl.MapFar), complex(3, 3))
	// Both parts are finite, but the distance is not.
	nowhere(t, plain(impl.MapStereo), complex(math.MaxFloat32, math.MaxFloat32))
	succeeds(t, "to the east", at(0, 0.25))(impl.PlaceOf(plain(impl.MapFar), complex(pi/2, 0)))
	succeeds(t, "to the west", at(0, -0.25))(impl.PlaceOf(plain(impl.MapStereo), -2))
}

func TestPointsMustBeFinite(t *testing.T) {
	for _, m := range allMaps() {
		for _, x := range []float32{float32(math.Inf(1)), float32(math.Inf(-1)), num(0x7fc00000), num(0xffc00001)} {
			nowhere(t, m, complex(x, 0))
			nowhere(t, m, complex(0, x))
			nowhere(t, m, complex(x, x))
		}
	}
}

// All functions of a map fail for maps, and all of places for places, that are not valid.
func TestMapsAndPlacesMustBeValid(t *testing.T) {
	n := []float32{0, 0, 0, 0.1, 0.1, 0.15, 0.2, 0.05, 0.3}
	for name := range ofMaps {
		k := []int64{0, 2, 3}
		good := append([]float32{}, n...)
		if name == "MixPoint" {
			k[1] = 1
		}
		if got := callMap(name, good, k); got == "fails" {
			t.Errorf("%s fails for %v and %v", name, good, k)
		}
		for _, m := range wrongMaps() {
			copy(good, []float32{m.Middle.North, m.Middle.East, m.First})
			if got := callMap(name, good, []int64{m.Kind, k[1], k[2]}); got != "fails" {
				t.Errorf("%s with %v: got %s", name, m, got)
			}
		}
	}
	one, two, all := []int{3}, []int{3, 5}, []int{3, 5, 7}
	places := map[string][]int{"PointOf": one, "PointsOf": all, "PointsShared": all, "EastScale": one, "NorthScale": one, "CrossAngle": one, "AreaScale": one, "AxesAt": one, "WorstScales": all, "BendOfMap": all, "FitFirst": all, "LongRatio": two, "MixPoint": {7}, "WayLine": two, "MapBox": all}
	for name, list := range places {
		for _, i := range list {
			for _, p := range wrongPlaces() {
				args := append([]float32{}, n...)
				args[i], args[i+1] = p.North, p.East
				if got := callMap(name, args, []int64{0, 2, 3}); got != "fails" {
					t.Errorf("%s with %v: got %s", name, p, got)
				}
			}
		}
	}
}

func TestOtherMapsMustBeValid(t *testing.T) {
	for _, m := range wrongMaps() {
		fails[complex64](t, "MixPoint")(impl.MixPoint(m, plain(0), 0.5, at(0.1, 0.1)))
		fails[complex64](t, "MixPoint")(impl.MixPoint(plain(0), m, 0.5, at(0.1, 0.1)))
	}
}

func TestListsOnMapsHaveLimits(t *testing.T) {
	for _, name := range []string{"PointsOf", "PointsShared", "WorstScales", "BendOfMap", "FitFirst", "MapBox"} {
		for n, want := range map[int]bool{0: false, 1: true, 64: true, 65: false, 200: false} {
			args := []float32{0, 0, 0}
			for _, p := range spread(n) {
				args = append(args, p.North, p.East)
			}
			if got := callMap(name, args, []int64{0, 2}); (got != "fails") != want {
				t.Errorf("%s of %d places: got %s", name, n, got)
			}
		}
	}
}
