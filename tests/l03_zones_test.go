package tests

import (
	"fmt"
	"math"
	"slices"
	"testing"

	"loop.example/g01341/impl"
)

func TestZonesOfEasts(t *testing.T) {
	for zones := int64(1); zones <= 60; zones++ {
		for zone := range zones {
			middle := (float32(zone)+0.5)/float32(zones) - 0.5
			what := fmt.Sprintf("the middle of the zone %d of %d", zone, zones)
			expect(t, what, saidTwo(impl.ZoneOf(middle, zones)), words(true, zone, middle))
			expect(t, what+", a turn later", saidTwo(impl.ZoneOf(middle+1, zones)), words(true, zone, middle))
		}
		first, last := 0.5/float32(zones)-0.5, (float32(zones-1)+0.5)/float32(zones)-0.5
		expect(t, "the border", saidTwo(impl.ZoneOf(-0.5, zones)), words(true, int64(0), first))
		expect(t, "the other border", saidTwo(impl.ZoneOf(0.5, zones)), words(true, int64(0), first))
		// WrapEast tells just below the border as the border itself.
		expect(t, "just below the border", saidTwo(impl.ZoneOf(below(0.5), zones)), words(true, int64(0), first))
		expect(t, "a little below the border", saidTwo(impl.ZoneOf(below(below(0.5)), zones)), words(true, zones-1, last))
	}
	expect(t, "the example", saidTwo(impl.ZoneOf(0, 60)), words(true, int64(30), float32(30.5)/60-0.5))
	expect(t, "a border of zones", saidTwo(impl.ZoneOf(0.25, 4)), words(true, int64(3), float32(0.375)))
	expect(t, "below a border of zones", saidTwo(impl.ZoneOf(0.2499, 4)), words(true, int64(2), float32(0.125)))
	expect(t, "on another border of zones", saidTwo(impl.ZoneOf(-0.25, 4)), words(true, int64(1), float32(-0.125)))
	expect(t, "just below a border of zones", saidTwo(impl.ZoneOf(above(-0.25), 4)), words(true, int64(0), float32(-0.375)))
	expect(t, "0 of two zones", saidTwo(impl.ZoneOf(minusZero(), 2)), words(true, int64(1), float32(0.25)))
	expect(t, "below 0, rounded", saidTwo(impl.ZoneOf(-num(1), 2)), words(true, int64(1), float32(0.25)))
	expect(t, "below 0", saidTwo(impl.ZoneOf(-0x1p-20, 2)), words(true, int64(0), float32(-0.25)))
}

func TestZonesHaveLimits(t *testing.T) {
	for _, zones := range []int64{0, -1, 61, 1<<32 + 1, math.MaxInt64, math.MinInt64} {
		expect(t, fmt.Sprintf("%d zones", zones), saidTwo(impl.ZoneOf(0.1, zones)), "fails")
		for _, zone := range []int64{0, -1, 1, zones, zones - 1} {
			expect(t, fmt.Sprintf("the map of the zone %d of %d", zone, zones), said(impl.ZoneMap(plain(0), zone, zones)), "fails")
		}
	}
	for _, east := range []float32{1000, -1000, 999.75} {
		if got := saidTwo(impl.ZoneOf(east, 7)); got == "fails" {
			t.Errorf("ZoneOf %v fails", east)
		}
	}
	for _, east := range []float32{above(1000), above(-1000), math.MaxFloat32, float32(math.Inf(1)), float32(math.Inf(-1)), num(0x7fc00000)} {
		expect(t, fmt.Sprintf("ZoneOf %v", east), saidTwo(impl.ZoneOf(east, 7)), "fails")
	}
}

func TestMapsOfZones(t *testing.T) {
	for i, m := range allMaps() {
		zones := int64(i%60 + 1)
		for zone := range zones {
			want := m
			want.Middle.East = (float32(zone)+0.5)/float32(zones) - 0.5
			got, ok := impl.ZoneMap(m, zone, zones)
			if !ok || !impl.SameMap(got, want) {
				t.Errorf("ZoneMap %v, %d of %d: got %v, %v", m, zone, zones, got, ok)
			}
			expect(t, "ZoneOf its middle", saidTwo(impl.ZoneOf(got.Middle.East, zones)), words(true, zone, want.Middle.East))
		}
		for _, zone := range []int64{-1, zones, zones + 1, math.MaxInt64, math.MinInt64} {
			expect(t, fmt.Sprintf("the map of the zone %d of %d", zone, zones), said(impl.ZoneMap(m, zone, zones)), "fails")
		}
	}
	for zones := int64(1); zones <= 60; zones++ {
		if got, ok := impl.ZoneMap(plain(0), zones-1, zones); !ok || !impl.ValidMap(got) {
			t.Errorf("the last zone of %d: got %v, %v", zones, got, ok)
		}
	}
}

// lineWanted is what a line of places is to return.
func lineWanted(m impl.Map, count int64, placeAt func(share float32) (impl.Place, bool)) string {
	var list []complex64
	for k := range count {
		p, ok := placeAt(float32(k) / float32(count-1))
		z, also := impl.PointOf(m, p)
		if !ok || !also {
			return "fails"
		}
		list = append(list, z)
	}
	return words(true, list)
}

func TestLinesOnMaps(t *testing.T) {
	for i, m := range allMaps() {
		for _, count := range []int64{2, 3, 17, 63, 64} {
			for k, p := range []impl.Place{{}, at(0.25, 0.1), at(-0.25, -0.5), at(-0.2, 0.45), ordinaryPlaces()[i]} {
				q := ordinaryPlaces()[(i*9+k)%64]
				what := fmt.Sprintf("%d points of %v on %v", count, p, m)
				expect(t, "NorthLine, "+what, said(impl.NorthLine(m, p.North, count)), lineWanted(m, count, func(share float32) (impl.Place, bool) {
					east, ok := impl.WrapEast(m.Middle.East - 0.499 + float32(0.998*share))
					return at(p.North, east), ok
				}))
				expect(t, "EastLine, "+what, said(impl.EastLine(m, p.East+3, count)), lineWanted(m, count, func(share float32) (impl.Place, bool) {
					east, ok := impl.WrapEast(p.East + 3)
					return at(-0.24+float32(0.48*share), east), ok
				}))
				expect(t, "WayLine, "+what, said(impl.WayLine(m, p, q, count)), lineWanted(m, count, func(share float32) (impl.Place, bool) {
					return impl.ShareOfWay(p, q, share)
				}))
			}
		}
	}
}

// A line of a north leads from one border of a map nearly to the other one, without a jump, wherever the middle is.
func TestNorthLinesDoNotJump(t *testing.T) {
	for _, east := range []float32{0, 0.375, -0.5, below(0.5), -0.25} {
		for kind := int64(impl.MapPlate); kind <= impl.MapWave; kind++ {
			line, ok := impl.NorthLine(around(kind, 0, east, 0), 0.05, 64)
			if !ok || len(line) != 64 || !isNearly(real(line[63])+real(line[0]), 0, 1e-5) {
				t.Fatalf("around %v: got %v, %v", east, line, ok)
			}
			for k := range line[1:] {
				if real(line[k+1]) <= real(line[k]) {
					t.Errorf("around %v, the line jumps behind %d, to %v", east, k, line[k+1])
				}
			}
		}
	}
}

func TestLinesOnMapsHaveLimits(t *testing.T) {
	m, p, q := plain(impl.MapPlate), at(0.1, 0.2), at(0.05, -0.3)
	for _, count := range []int64{1, 0, -1, 65, 1<<32 + 2, math.MaxInt64, math.MinInt64} {
		what := fmt.Sprintf("%d points", count)
		fails[[]complex64](t, what)(impl.NorthLine(m, 0.1, count))
		fails[[]complex64](t, what)(impl.EastLine(m, 0.1, count))
		fails[[]complex64](t, what)(impl.WayLine(m, p, q, count))
	}
	for _, north := range []float32{0.25, -0.25, 0, num(1)} {
		if line, ok := impl.NorthLine(m, north, 64); !ok || len(line) != 64 || imag(line[9]) != north*6.2831855 {
			t.Errorf("NorthLine of %v: got %v, %v", north, line, ok)
		}
	}
	inf, none := float32(math.Inf(1)), num(0x7fc00000)
	for _, x := range []float32{inf, -inf, none, above(0.25), above(-0.25), 1} {
		fails[[]complex64](t, "NorthLine")(impl.NorthLine(m, x, 3))
	}
	for _, x := range []float32{1000, -1000, 0.5, -0.5} {
		if line, ok := impl.EastLine(m, x, 64); !ok || len(line) != 64 {
			t.Errorf("EastLine of %v: got %v, %v", x, line, ok)
		}
	}
	for _, x := range []float32{inf, -inf, none, above(1000), above(-1000)} {
		fails[[]complex64](t, "EastLine")(impl.EastLine(m, x, 3))
	}
	fails[[]complex64](t, "NorthLine of a pole")(impl.NorthLine(plain(impl.MapMercator), 0.25, 2))
	fails[[]complex64](t, "NorthLine beyond the edge")(impl.NorthLine(plain(impl.MapStereo), 0, 2))
	fails[[]complex64](t, "EastLine beyond the edge")(impl.EastLine(plain(impl.MapStereo), 0.5, 3))
	fails[[]complex64](t, "WayLine to a pole")(impl.WayLine(plain(impl.MapMercator), at(-0.25, 0), at(0, 0), 2))
}

// easts are places with these easts, and different norths.
func easts(list ...float32) []impl.Place {
	places := make([]impl.Place, len(list))
	for i, east := range list {
		places[i] = at(float32(i)/256, east)
	}
	return places
}

// cuts are the lengths of the parts, which must be those of the list.
func cuts(t *testing.T, list []impl.Place, border float32) []int64 {
	t.Helper()
	parts, ok := impl.CutPlaces(list, border)
	if !ok {
		return nil
	}
	var lengths []int64
	for _, part := range parts {
		lengths = append(lengths, int64(len(part)))
	}
	if joined := slices.Concat(parts...); words(true, joined) != words(true, list) {
		t.Errorf("CutPlaces %v at %v: got %v", list, border, parts)
	}
	return lengths
}

func TestCutPlaces(t *testing.T) {
	cases := []struct {
		border float32
		easts  []float32
		want   []int64
	}{
		{0.5, []float32{0.4, -0.4, -0.3}, []int64{1, 2}},
		{-0.5, []float32{0.4, -0.4, -0.3}, []int64{1, 2}},
		{0, []float32{0.4, -0.4, -0.3}, []int64{3}},
		{0.5, []float32{0.1}, []int64{1}},
		{0.5, []float32{0.1, -0.1, 0.1}, []int64{3}},
		{0, []float32{0.1, -0.1, 0.1, 0.2}, []int64{1, 1, 2}},
		{minusZero(), []float32{-0.1, 0.1}, []int64{1, 1}},
		{0.25, []float32{0.2, 0.3, 0.24, 0.22, 0.26}, []int64{1, 1, 2, 1}},
		{-0.25, []float32{-0.2, -0.3, 0.2, 0.4, -0.4}, []int64{1, 4}},
		// Just half of a turn is no cut, a little more is one.
		{0.5, []float32{-0.25, 0.25}, []int64{2}},
		{0.5, []float32{-0.25, above(above(0.25))}, []int64{1, 1}},
		{0, []float32{-0.25, 0.25}, []int64{2}},
		{0.5, []float32{-0.25, below(0.25)}, []int64{2}},
		{0.25, []float32{-0.5, 0}, []int64{2}},
		{0.5, []float32{-0.5, 0}, []int64{2}},
		{0.5, []float32{-0.5, 0.1}, []int64{1, 1}},
		// What is on the border is on its eastern side.
		{0.25, []float32{0.25, 0.2}, []int64{1, 1}},
		{0.25, []float32{0.25, 0.3}, []int64{2}},
		{0.5, []float32{-0.5, 0.4, -0.5, -0.4}, []int64{1, 1, 2}},
		{-0.5, []float32{0.4, -0.5}, []int64{1, 1}},
		{0, []float32{0, 0.1, -0.1}, []int64{2, 1}},
		{0, []float32{minusZero(), 0, num(1)}, []int64{3}},
		// As they are rounded, these are all on the border.
		{0, []float32{-num(1), num(1), minusZero()}, []int64{3}},
		{0.5, []float32{-0.5, below(0.5), -0.5}, []int64{3}},
		{below(0.5), []float32{0.4, -0.4}, []int64{1, 1}},
	}
	for _, c := range cases {
		expect(t, fmt.Sprintf("CutPlaces of %v at %v", c.easts, c.border), cuts(t, easts(c.easts...), c.border), c.want)
	}
}

func TestCutPlacesHaveLimits(t *testing.T) {
	for _, border := range []float32{above(0.5), above(-0.5), 1, float32(math.Inf(1)), float32(math.Inf(-1)), num(0x7fc00000)} {
		fails[[][]impl.Place](t, fmt.Sprintf("the border %v", border))(impl.CutPlaces(spread(3), border))
	}
	for _, n := range []int{0, 65, 100} {
		fails[[][]impl.Place](t, fmt.Sprintf("%d places", n))(impl.CutPlaces(spread(n), 0))
	}
	for _, p := range wrongPlaces() {
		fails[[][]impl.Place](t, fmt.Sprintf("%v", p))(impl.CutPlaces([]impl.Place{{}, p, {}}, 0))
	}
	var list []float32
	for i := range 64 {
		list = append(list, float32(i%2)*0.8-0.4)
	}
	expect(t, "64 places", cuts(t, easts(list...), 0.5), slices.Repeat([]int64{1}, 64))
	expect(t, "64 places without a cut", cuts(t, easts(list...), 0.1), []int64{64})
}

// The parts share memory neither with the list nor with one another, nor does their unused capacity.
func TestPartsAreNew(t *testing.T) {
	list := easts(0.3, 0.4, -0.4, -0.3, -0.4, 0.4)
	want := words(true, list)
	parts, _ := impl.CutPlaces(list, 0.5)
	for i, part := range parts {
		before := words(true, slices.Concat(parts[i+1:]...))
		whole := append(part[:cap(part)], at(7, 8))
		for k := range whole {
			whole[k] = at(9, 9)
		}
		for k := range part[:cap(part)] {
			part[:cap(part)][k] = at(9, 9)
		}
		if words(true, list) != want || words(true, slices.Concat(parts[i+1:]...)) != before {
			t.Errorf("the part %d has the memory of others", i)
		}
	}
}

func TestMapBox(t *testing.T) {
	for _, m := range allMaps() {
		for n := 1; n <= 64; n += 7 {
			points, ok := impl.PointsOf(m, spread(n))
			low, high := complex64(0), complex64(0)
			if ok {
				low, high = points[0], points[0]
			}
			for _, z := range points {
				low = complex(min(real(low), real(z)), min(imag(low), imag(z)))
				high = complex(max(real(high), real(z)), max(imag(high), imag(z)))
			}
			expect(t, fmt.Sprintf("MapBox of %d places on %v", n, m), saidTwo(impl.MapBox(m, spread(n))), words(ok, low, high))
		}
	}
	expect(t, "MapBox beyond the edge", saidTwo(impl.MapBox(plain(impl.MapMercator), []impl.Place{{}, at(0.25, 0)})), "fails")
	// Of equal numbers, the first one counts.
	minus := minusZero()
	box := func(list ...impl.Place) string { return saidTwo(impl.MapBox(plain(impl.MapPlate), list)) }
	expect(t, "zeros", box(at(0, minus), at(minus, 0)), words(true, complex(minus, 0), complex(minus, 0)))
	expect(t, "other zeros", box(at(minus, 0), at(0, minus)), words(true, complex(0, minus), complex(0, minus)))
	expect(t, "zeros behind others", box(at(0.1, -0.1), at(minus, 0), at(0, minus)), words(true, complex(float32(6.2831855)*-0.1, minus), complex(0, float32(6.2831855)*0.1)))
}
