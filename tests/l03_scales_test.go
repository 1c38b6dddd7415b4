package tests

import (
	"fmt"
	"math"
	"testing"

	"loop.example/g01341/impl"
)

const smallStep = 0.0009765625

var scaleNames = []string{"EastScale", "NorthScale", "CrossAngle", "AreaScale", "AxesAt"}

// scaleOf calls a function of a scale.
func scaleOf(name string, m impl.Map, p impl.Place) string {
	return ofMaps[name](m, []impl.Place{p}, nil, nil)
}

// exactStep is how a step of the exact points goes, divided by how long it is on the ball.
func exactStep(m impl.Map, p impl.Place, north, east float64) complex128 {
	const h = 1e-3
	to, from := p, p
	to.North, to.East = to.North+float32(north*h), to.East+float32(east*h)
	from.North, from.East = from.North-float32(north*h), from.East-float32(east*h)
	x, y := exactPoint(m, to)
	v, w := exactPoint(m, from)
	long := exactRound * (float64(to.North) - float64(from.North) + math.Cos(exactRound*float64(p.North))*(float64(to.East)-float64(from.East)))
	return complex((x-v)/long, (y-w)/long)
}

func TestScalesAreThoseOfMaps(t *testing.T) {
	for _, m := range allMaps() {
		for _, p := range ordinaryPlaces() {
			if !isInside(m, p) || exactApart(m.Middle, p) < 0.01 {
				continue
			}
			u, v := exactStep(m, p, 0, 1), exactStep(m, p, 1, 0)
			east, _ := impl.EastScale(m, p)
			north, _ := impl.NorthScale(m, p)
			area, _ := impl.AreaScale(m, p)
			angle, ok := impl.CrossAngle(m, p)
			long, wide := math.Hypot(real(u), imag(u)), math.Hypot(real(v), imag(v))
			by := 0.002 * (1 + long*wide)
			if !ok || !isNearly(east, long, by) || !isNearly(north, wide, by) || !isNearly(area, real(u)*imag(v)-imag(u)*real(v), 2*by) {
				t.Errorf("%v at %v has the scales %v, %v and %v, not those of %v and %v", m, p, east, north, area, u, v)
			}
			if want := (math.Atan2(imag(v), real(v)) - math.Atan2(imag(u), real(u))) / exactRound; turnsBetween(float64(angle), want) > 0.002 {
				t.Errorf("%v at %v crosses in %v, not in %v", m, p, angle, want)
			}
		}
	}
}

// The axes are the greatest and the least of the scales in all directions, and the turn is that of the greatest one.
func TestAxesAreTheWorstDirections(t *testing.T) {
	for _, m := range allMaps() {
		for _, p := range ordinaryPlaces() {
			if !isInside(m, p) || exactApart(m.Middle, p) < 0.01 {
				continue
			}
			u, v := exactStep(m, p, 0, 1), exactStep(m, p, 1, 0)
			most, least, turn := 0.0, math.Inf(1), 0.0
			for i := range 3600 {
				way := exactRound * float64(i) / 7200
				step := u*complex(math.Cos(way), 0) + v*complex(math.Sin(way), 0)
				long := math.Hypot(real(step), imag(step))
				least = min(least, long)
				if long > most {
					most, turn = long, math.Atan2(imag(step), real(step))/exactRound
				}
			}
			gotMost, gotLeast, gotTurn, ok := impl.AxesAt(m, p)
			by := 0.002 * (1 + most*most)
			if !ok || !isNearly(gotMost, most, by) || !isNearly(gotLeast, least, by) {
				t.Errorf("%v at %v has the axes %v and %v, not %v and %v", m, p, gotMost, gotLeast, most, least)
			}
			if most > 1.05*least && math.Abs(math.Remainder(float64(gotTurn)-turn, 0.5)) > 0.01 {
				t.Errorf("%v at %v has the greatest scale at the turn %v, not %v", m, p, gotTurn, turn)
			}
		}
	}
}

func TestScalesOfPlates(t *testing.T) {
	plate := plain(impl.MapPlate)
	expect(t, "EastScale", scaleOf("EastScale", plate, at(0, 0)), words(true, float32(1)))
	expect(t, "NorthScale", scaleOf("NorthScale", plate, at(0, 0.25)), words(true, float32(1)))
	expect(t, "CrossAngle", scaleOf("CrossAngle", plate, at(0, 0)), words(true, float32(0.25)))
	expect(t, "AreaScale", scaleOf("AreaScale", plate, at(0, minusZero())), words(true, float32(1)))
	// One of both numbers is 0, and no scale is greater than others: the turn is +0.
	expect(t, "AxesAt", scaleOf("AxesAt", plate, at(0, 0)), words(true, float32(1), float32(1), float32(0)))
	// Opposite to the middle, all steps lead to the other side: again, one number is 0, but the other one points to the left.
	expect(t, "AxesAt the opposite place", scaleOf("AxesAt", plain(impl.MapFar), at(0, -0.5)), words(true, float32(511), float32(511), float32(0)))
	// To the north, a turn to the east is as wide as at First.
	most, least, turn, ok := impl.AxesAt(plate, at(0.125, 0.1))
	if !ok || !isNearly(most, math.Sqrt2, 1e-4) || !isNearly(least, 1, 1e-4) || turn != 0 {
		t.Errorf("AxesAt: got %v, %v, %v", most, least, turn)
	}
	// With First in the north, places on the equator are higher than wide.
	most, least, turn, ok = impl.AxesAt(around(impl.MapPlate, 0, 0, 0.125), at(0, 0.1))
	if !ok || !isNearly(most, 1, 1e-4) || !isNearly(least, math.Sqrt2/2, 1e-4) || turnsBetween(2*float64(turn), 0.5) > 1e-4 {
		t.Errorf("AxesAt with First: got %v, %v, %v", most, least, turn)
	}
}

func TestScalesHaveNorths(t *testing.T) {
	for kind := int64(impl.MapPlate); kind <= impl.MapFar; kind++ {
		for _, name := range scaleNames {
			for _, north := range []float32{0.24, -0.24, 0, num(1), below(0.24)} {
				if got := scaleOf(name, plain(kind), at(north, 0.1)); got == "fails" {
					t.Errorf("%s of kind %d fails at the north %v", name, kind, north)
				}
			}
			for _, north := range []float32{above(0.24), above(-0.24), 0.2401, 0.249, 0.25, -0.25} {
				if got := scaleOf(name, plain(kind), at(north, 0.1)); got != "fails" {
					t.Errorf("%s of kind %d at the north %v: got %s", name, kind, north, got)
				}
			}
		}
		for _, name := range []string{"WorstScales", "BendOfMap", "FitFirst"} {
			for i := range 3 {
				list := spread(3)
				list[i].North = above(0.24)
				if got := ofMaps[name](plain(kind), list, nil, nil); got != "fails" {
					t.Errorf("%s of kind %d: got %s", name, kind, got)
				}
			}
		}
	}
}

// Steps across the border of the east stay small, those across the border of a map do not.
func TestScalesAtTheBorderOfTheEast(t *testing.T) {
	for _, east := range []float32{-0.5, below(0.5), 0.49951172, -0.49951172} {
		for _, m := range []impl.Map{around(impl.MapPlate, 0, 0.375, 0), around(impl.MapMercator, 0, -0.5, 0), around(impl.MapWave, 0, -0.25, 0), around(impl.MapFar, 0, -0.5, 0)} {
			scale, ok := impl.EastScale(m, at(0, east))
			if !ok || !isNearly(scale, 1, 2e-4) {
				t.Errorf("EastScale of %v at %v: got %v, %v", m, east, scale, ok)
			}
		}
		wide := (1 - 2*smallStep) / (2 * smallStep)
		for _, m := range []impl.Map{plain(impl.MapPlate), plain(impl.MapEven), plain(impl.MapMercator), plain(impl.MapWave)} {
			scale, ok := impl.EastScale(m, at(0, east))
			if !ok || !isNearly(scale, wide, 0.01) {
				t.Errorf("EastScale of %v at %v: got %v, %v, want %v, nearly", m, east, scale, ok, wide)
			}
			angle, ok := impl.CrossAngle(m, at(0, east))
			area, also := impl.AreaScale(m, at(0, east))
			if !ok || !also || !isNearly(angle, -0.25, 1e-6) || !isNearly(area, -wide, 0.02) {
				t.Errorf("%v at %v crosses in %v, areas are %v", m, east, angle, area)
			}
		}
	}
}

// At the edge of a stereo map, a scale is told as long as its own two steps end on the map.
func TestScalesAtTheEdgeOfStereoMaps(t *testing.T) {
	m := plain(impl.MapStereo)
	inner, outer, half := at(0, 0.45-2*smallStep), at(0, 0.45+2*smallStep), at(0, 0.4495)
	for _, name := range scaleNames {
		if got := scaleOf(name, m, inner); got == "fails" {
			t.Errorf("%s fails inside", name)
		}
		if got := scaleOf(name, m, outer); got != "fails" {
			t.Errorf("%s outside: got %s", name, got)
		}
		if got := scaleOf(name, m, half); (got == "fails") != (name != "NorthScale") {
			t.Errorf("%s beside the edge: got %s", name, got)
		}
	}
	if got := ofMaps["WorstScales"](m, []impl.Place{inner, half}, nil, nil); got != "fails" {
		t.Errorf("WorstScales beside the edge: got %s", got)
	}
}

func TestWorstScalesAndBends(t *testing.T) {
	for i, m := range allMaps() {
		list := spread(64)[i : i+1+i%9]
		low, high, sum := float32(math.Inf(1)), float32(0), float32(0)
		all := true
		for _, p := range list {
			most, least, _, ok := impl.AxesAt(m, p)
			all = all && ok
			low, high = min(low, least), max(high, most)
			for _, scale := range []float32{most, least} {
				sum += float32(impl.LogNumber(scale) * impl.LogNumber(scale))
			}
		}
		if !all {
			low, high, sum = 0, 0, 0
		}
		what := fmt.Sprintf("%v at %d places", m, len(list))
		expect(t, "WorstScales of "+what, saidTwo(impl.WorstScales(m, list)), words(all, low, high))
		expect(t, "BendOfMap of "+what, said(impl.BendOfMap(m, list)), words(all, sum/float32(2*len(list))))
	}
	succeeds(t, "BendOfMap of a plate", float32(0))(impl.BendOfMap(plain(0), []impl.Place{{}, {}}))
}

func TestFitFirst(t *testing.T) {
	for _, kind := range []int64{impl.MapPlate, impl.MapEven} {
		for _, north := range []float32{0, 0.03, -0.1, 0.2, -0.23} {
			m := around(kind, 0.1, -0.5, -0.24)
			list := []impl.Place{at(north, -0.4), at(-north, 0.3), at(north, 0.2)}
			got, bend, ok := impl.FitFirst(m, list)
			if !ok || !isNearly(got.First, math.Abs(float64(north)), 0.002) || !impl.SameMap(got, around(kind, 0.1, -0.5, got.First)) {
				t.Errorf("FitFirst of %v at %v: got %v, %v", m, north, got, ok)
			}
			succeeds(t, "BendOfMap of what is fitted", bend)(impl.BendOfMap(got, list))
			for first := float32(0); first <= 0.24; first += 0.01 {
				m.First = first
				if other, _ := impl.BendOfMap(m, list); other < bend-1e-5 {
					t.Errorf("kind %d at %v: %v bends %v, but %v only %v", kind, north, got.First, bend, first, other)
				}
			}
			m.First = num(1)
			again, same, _ := impl.FitFirst(m, list)
			if !impl.SameMap(got, again) || same != bend {
				t.Error("FitFirst depends on the First of its map")
			}
		}
	}
}

// On maps without a First, no bend is less than another one, so that the lesser part is left out again and again.
func TestFitFirstOfOtherKinds(t *testing.T) {
	low, high := float32(0), float32(0.24)
	for range 16 {
		low += (high - low) / 3
	}
	for _, kind := range []int64{impl.MapMercator, impl.MapWave, impl.MapStereo, impl.MapEqual, impl.MapFar} {
		m := around(kind, 0.05, 0.1, 0.2)
		got, bend, ok := impl.FitFirst(m, spread(4))
		want, _ := impl.BendOfMap(m, spread(4))
		m.First = (low + high) / 2
		if !ok || !impl.SameMap(got, m) || bend != want {
			t.Errorf("FitFirst of kind %d: got %v, %v, %v, want %v, %v", kind, got, bend, ok, m, want)
		}
	}
}

func TestLongRatio(t *testing.T) {
	plate := plain(impl.MapPlate)
	ratio, ok := impl.LongRatio(plate, at(0, 0.1), at(0, 0.35))
	if !ok || !isNearly(ratio, 1, 1e-6) {
		t.Errorf("along the equator: got %v, %v", ratio, ok)
	}
	ratio, ok = impl.LongRatio(plate, at(0.25, 0.1), at(0.2, 0.3))
	if want := math.Hypot(0.2, 0.05) / 0.05; !ok || !isNearly(ratio, want, 1e-4) {
		t.Errorf("to the pole: got %v, %v, want %v", ratio, ok, want)
	}
	// On the map, the way leads from one border to the other one.
	ratio, ok = impl.LongRatio(plate, at(0, 0.49), at(0, -0.49))
	if !ok || !isNearly(ratio, 49, 1e-3) {
		t.Errorf("across the border: got %v, %v", ratio, ok)
	}
	ratio, ok = impl.LongRatio(around(impl.MapPlate, 0, -0.5, 0), at(0, 0.49), at(0, -0.49))
	if !ok || !isNearly(ratio, 1, 1e-4) {
		t.Errorf("across the border of the east: got %v, %v", ratio, ok)
	}
	for _, m := range allMaps() {
		for _, p := range ordinaryPlaces() {
			if apart, _ := impl.ApartOf(p, p); apart <= 0 {
				fails[float32](t, "LongRatio of one place")(impl.LongRatio(m, p, p))
			}
		}
	}
	fails[float32](t, "LongRatio of one place")(impl.LongRatio(plate, at(0, 0.25), at(0, 0.25)))
	fails[float32](t, "LongRatio to the pole")(impl.LongRatio(plain(impl.MapMercator), at(0, 0), at(0.25, 0)))
	fails[float32](t, "LongRatio from the pole")(impl.LongRatio(plain(impl.MapMercator), at(0.25, 0), at(0, 0)))
	fails[float32](t, "LongRatio to the other side")(impl.LongRatio(plain(impl.MapStereo), at(0, 0), at(0, -0.5)))
}

func TestMixPoint(t *testing.T) {
	p := at(0.1, 0.2)
	for i, a := range allMaps() {
		b := allMaps()[(i*5+3)%len(allMaps())]
		from, ok := impl.PointOf(a, p)
		to, also := impl.PointOf(b, p)
		for _, share := range []float32{0, minusZero(), num(1), 0.3, 0.5, below(1), 1} {
			x := real(from) + float32(share*(real(to)-real(from)))
			y := imag(from) + float32(share*(imag(to)-imag(from)))
			if !ok || !also {
				x, y = 0, 0
			}
			expect(t, fmt.Sprintf("MixPoint of %v and %v, %v", a, b, share), said(impl.MixPoint(a, b, share, p)), words(ok && also, complex(x, y)))
		}
	}
	plate, wave := plain(impl.MapPlate), plain(impl.MapWave)
	for _, share := range []float32{above(1), -num(1), -1, 2, float32(math.Inf(1)), float32(math.Inf(-1)), num(0x7fc00000)} {
		fails[complex64](t, fmt.Sprintf("MixPoint with the share %v", share))(impl.MixPoint(plate, wave, share, p))
	}
	fails[complex64](t, "MixPoint to a map without the pole")(impl.MixPoint(plate, plain(impl.MapMercator), 0, at(0.25, 0)))
	fails[complex64](t, "MixPoint from a map without the pole")(impl.MixPoint(plain(impl.MapMercator), plate, 1, at(0.25, 0)))
}
