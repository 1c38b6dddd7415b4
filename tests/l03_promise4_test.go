package tests

import (
	"fmt"
	"math"
	"testing"

	"loop.example/g01341/impl"
)

// leadsBack checks that the point of a place leads back to it, nearly.
func leadsBack(t *testing.T, m impl.Map, p impl.Place, by float64) {
	t.Helper()
	z, ok := impl.PointOf(m, p)
	back, also := impl.PlaceOf(m, z)
	if !ok || !also || exactApart(p, back) > by {
		t.Errorf("%v led %v to %v, %v, and back to %v, %v", m, p, z, ok, back, also)
	}
}

// Promise 4: maps lead back, nearly.
func TestMapsLeadBack(t *testing.T) {
	for _, m := range allMaps() {
		for _, p := range ordinaryPlaces() {
			if isInside(m, p) {
				leadsBack(t, m, p, 1e-6)
			}
		}
		leadsBack(t, m, at(0.001, m.Middle.East), 1e-6)
		leadsBack(t, m, at(num(1), m.Middle.East), 1e-6)
	}
}

// Promise 4: points lead back to themselves, too, nearly.
func TestPointsLeadBack(t *testing.T) {
	for _, m := range allMaps() {
		for x := float32(-1.25); x < 1.3; x += 0.25 {
			for y := float32(-0.75); y < 0.8; y += 0.25 {
				p, ok := impl.PlaceOf(m, complex(x, y))
				if !ok && isWide(m) {
					continue
				}
				z, also := impl.PointOf(m, p)
				if !ok || !also || impl.LongOf(z-complex(x, y)) > 1e-4 {
					t.Errorf("%v led %v back to %v, %v, and this to %v, %v", m, complex(x, y), p, ok, z, also)
				}
			}
		}
	}
}

// isWide reports whether a map is so narrow across, because of a First next to its limits, that not all points near its middle have places.
func isWide(m impl.Map) bool {
	return (m.Kind == impl.MapPlate || m.Kind == impl.MapEven) && math.Abs(float64(m.First)) > 0.2
}

// Promise 4: the middle and the poles lead back, too, where a map has them.
func TestPolesLeadBack(t *testing.T) {
	for _, pole := range []impl.Place{at(0.25, 0), at(-0.25, 0), at(0.25, -0.3), at(-0.25, 0.3)} {
		leadsBack(t, plain(impl.MapPlate), pole, 1e-6)
		leadsBack(t, plain(impl.MapEven), pole, 1e-6)
		for kind := int64(impl.MapStereo); kind <= impl.MapFar; kind++ {
			for _, m := range []impl.Map{plain(kind), around(kind, 0.1, 0.3, 0.125), around(kind, pole.North, 0.2, 0)} {
				leadsBack(t, m, pole, 1e-6)
			}
		}
	}
	for _, m := range allMaps() {
		if m.Kind == impl.MapStereo || m.Kind == impl.MapFar {
			leadsBack(t, m, m.Middle, 1e-6)
		}
		p, ok := impl.PlaceOf(m, 0)
		want := m.Middle
		if !isRound(m) {
			want.North = 0
		}
		if !ok || exactApart(p, want) > 1e-6 {
			t.Errorf("%v leads 0 back to %v, %v", m, p, ok)
		}
	}
}

// eachScaled calls each pair of a map of some kinds, and a place well inside of it where scales are measured.
func eachScaled(kinds []int64, each func(m impl.Map, p impl.Place)) {
	for _, kind := range kinds {
		for _, m := range mapsOf(kind) {
			for _, p := range scaledPlaces() {
				if isInside(m, p) {
					each(m, p)
				}
			}
		}
	}
}

// Promise 4: maps of Mercator and stereo maps keep angles, nearly: the scales to the east and to the north are the same there, and cross in a quarter of a turn.
func TestMapsKeepAngles(t *testing.T) {
	eachScaled([]int64{impl.MapMercator, impl.MapStereo}, func(m impl.Map, p impl.Place) {
		east, ok := impl.EastScale(m, p)
		north, also := impl.NorthScale(m, p)
		angle, too := impl.CrossAngle(m, p)
		// Next to the poles, the scale changes much from one end of a step to the other one.
		if !ok || !also || !too || math.Abs(float64(north/east)-1) > 0.004 || math.Abs(float64(angle)-0.25) > 0.0005 {
			t.Errorf("%v at %v has the scales %v and %v, which cross in %v", m, p, east, north, angle)
		}
		most, least, _, ok := impl.AxesAt(m, p)
		if !ok || math.Abs(float64(most/least)-1) > 0.004 {
			t.Errorf("%v at %v has scales from %v to %v", m, p, least, most)
		}
	})
}

// Promise 4: even maps, waves and equal maps keep areas, nearly.
func TestMapsKeepAreas(t *testing.T) {
	eachScaled([]int64{impl.MapEven, impl.MapWave, impl.MapEqual}, func(m impl.Map, p impl.Place) {
		area, ok := impl.AreaScale(m, p)
		most, least, _, also := impl.AxesAt(m, p)
		if !ok || !also || !isNearly(area, 1, 0.004) || !isNearly(most*least, 1, 0.004) {
			t.Errorf("%v at %v has areas %v times as large, and axes of %v and %v", m, p, area, most, least)
		}
	})
}

// Promise 4: far maps keep how far places are from their middle, nearly, and plates how far they are to the north, and to the east along First.
func TestMapsKeepLongs(t *testing.T) {
	for _, m := range mapsOf(impl.MapFar) {
		for _, p := range ordinaryPlaces() {
			ratio, ok := impl.LongRatio(m, m.Middle, p)
			if p != m.Middle && (!ok || !isNearly(ratio, 1, 1e-5)) {
				t.Errorf("LongRatio of %v to %v: got %v, %v", m, p, ratio, ok)
			}
		}
	}
	eachScaled([]int64{impl.MapPlate}, func(m impl.Map, p impl.Place) {
		north, ok := impl.NorthScale(m, p)
		east, also := impl.EastScale(m, at(m.First, p.East))
		if !ok || !also || !isNearly(north, 1, 2e-4) || !isNearly(east, 1, 1e-3) {
			t.Errorf("%v at %v has the scales %v and %v", m, p, east, north)
		}
	})
}

// Promise 4: the other kinds do not keep what their kinds do not tell, so that none of them is another one.
func TestMapsOfOtherKindsKeepNothing(t *testing.T) {
	p := at(0.15, 0.2)
	for kind := int64(impl.MapPlate); kind <= impl.MapFar; kind++ {
		area, _ := impl.AreaScale(plain(kind), p)
		most, least, _, ok := impl.AxesAt(plain(kind), p)
		keepsAngles := kind == impl.MapMercator || kind == impl.MapStereo
		keepsAreas := kind == impl.MapEven || kind == impl.MapWave || kind == impl.MapEqual
		if !ok || (most/least < 1.01) != keepsAngles || isNearly(area, 1, 0.01) != keepsAreas {
			t.Errorf("kind %d: areas of %v, axes of %v and %v", kind, area, most, least)
		}
	}
}

// sharedLists are lists of places of the lengths at which workers get more or less to do, and some that lists must not have.
func sharedLists() [][]impl.Place {
	var lists [][]impl.Place
	for _, n := range []int{0, 1, 2, 3, 7, 8, 9, 31, 63, 64, 65} {
		lists = append(lists, append(spread(n/2), allPlaces()[64:64+n-n/2]...))
	}
	for _, i := range []int{0, 1, 6, 19} {
		list := spread(20)
		list[i] = at(0.25, 0.1)
		lists = append(lists, list)
	}
	return append(lists, append(spread(9), at(0, 0.5)))
}

// Promise 4: any number of workers finds the same points, to the last bit.
func TestAllWorkersFindTheSame(t *testing.T) {
	for _, m := range append(allMaps(), wrongMaps()[:8]...) {
		for _, list := range sharedLists() {
			want := said(impl.PointsOf(m, list))
			for workers := int64(1); workers <= impl.MaxWorkers; workers++ {
				if got := said(impl.PointsShared(m, list, workers)); got != want {
					t.Errorf("%d workers on %v: got %s, want %s", workers, m, got, want)
				}
			}
		}
	}
}

func TestPointsOfListsAreThoseOfPlaces(t *testing.T) {
	for _, m := range allMaps() {
		for _, list := range sharedLists() {
			var want []complex64
			all := impl.ArePlaces(list)
			for _, p := range list {
				z, ok := impl.PointOf(m, p)
				want, all = append(want, z), all && ok
			}
			if !all {
				want = nil
			}
			expect(t, fmt.Sprintf("PointsOf %d places on %v", len(list), m), said(impl.PointsOf(m, list)), words(all, want))
		}
	}
}

func TestNumbersOfWorkers(t *testing.T) {
	for _, workers := range []int64{0, -1, 9, 10, 1 << 32, 1<<32 + 1, math.MaxInt64, math.MinInt64} {
		fails[[]complex64](t, fmt.Sprintf("%d workers", workers))(impl.PointsShared(plain(0), spread(3), workers))
	}
	for _, workers := range []int64{1, 2, 8} {
		succeeds(t, fmt.Sprintf("%d workers", workers), []complex64{0})(impl.PointsShared(plain(0), []impl.Place{{}}, workers))
	}
}

// Promise 4: workers of many calls at once do not disturb each other, and none is left behind.
func TestWorkersAreJoined(t *testing.T) {
	m, list := around(impl.MapEqual, 0.1, 0.3, 0), spread(64)
	broken := append(spread(20), at(1, 1))
	want := said(impl.PointsOf(m, list))
	leavesNone(t, 200, func(i int) {
		if got := said(impl.PointsShared(m, list, int64(i%8+1))); got != want {
			t.Errorf("call %d: got %s", i, got)
		}
		fails[[]complex64](t, "a wrong list")(impl.PointsShared(m, broken, int64(i%8+1)))
	})
}
