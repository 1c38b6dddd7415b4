package tests

import (
	"math"
	"runtime"
	"sync"
	"testing"
	"time"

	"loop.example/g01341/impl"
)

// mapCall is how a function of chapter 3 is called: m is its map, p are the places that the numbers n behind the map have, and k the integers behind the map.
type mapCall = func(m impl.Map, p []impl.Place, n []float32, k []int64) string

// onMap is the call of a function of a map and a place.
func onMap[T any](f func(impl.Map, impl.Place) (T, bool)) mapCall {
	return func(m impl.Map, p []impl.Place, n []float32, k []int64) string { return said(f(m, p[0])) }
}

// ofList is the call of a function of a map and places.
func ofList[T any](f func(impl.Map, []impl.Place) (T, bool)) mapCall {
	return func(m impl.Map, p []impl.Place, n []float32, k []int64) string { return said(f(m, p)) }
}

// ofListTwo is the same for a function with two results.
func ofListTwo[T, U any](f func(impl.Map, []impl.Place) (T, U, bool)) mapCall {
	return func(m impl.Map, p []impl.Place, n []float32, k []int64) string { return saidTwo(f(m, p)) }
}

// ofTurns is the call of a function of a map, a number and how many points it returns.
func ofTurns(f func(impl.Map, float32, int64) ([]complex64, bool)) mapCall {
	return func(m impl.Map, p []impl.Place, n []float32, k []int64) string { return said(f(m, n[0], k[0])) }
}

// ofMaps has the functions of chapter 3 that take a map.
var ofMaps = map[string]mapCall{
	"PointOf": onMap(impl.PointOf),
	"PlaceOf": func(m impl.Map, p []impl.Place, n []float32, k []int64) string {
		return said(impl.PlaceOf(m, complex(n[0], n[1])))
	},
	"PointsOf": ofList(impl.PointsOf),
	"PointsShared": func(m impl.Map, p []impl.Place, n []float32, k []int64) string {
		return said(impl.PointsShared(m, p, k[0]))
	},
	"EastScale":  onMap(impl.EastScale),
	"NorthScale": onMap(impl.NorthScale),
	"CrossAngle": onMap(impl.CrossAngle),
	"AreaScale":  onMap(impl.AreaScale),
	"AxesAt": func(m impl.Map, p []impl.Place, n []float32, k []int64) string {
		most, least, turn, ok := impl.AxesAt(m, p[0])
		return words(ok, most, least, turn)
	},
	"WorstScales": ofListTwo(impl.WorstScales),
	"BendOfMap":   ofList(impl.BendOfMap),
	"FitFirst":    ofListTwo(impl.FitFirst),
	"LongRatio": func(m impl.Map, p []impl.Place, n []float32, k []int64) string {
		return said(impl.LongRatio(m, p[0], p[1]))
	},
	"MixPoint": func(m impl.Map, p []impl.Place, n []float32, k []int64) string {
		return said(impl.MixPoint(m, mapOf(n, k), n[3], at(n[4], n[5])))
	},
	"ZoneMap": func(m impl.Map, p []impl.Place, n []float32, k []int64) string {
		return said(impl.ZoneMap(m, k[0], k[1]))
	},
	"NorthLine": ofTurns(impl.NorthLine),
	"EastLine":  ofTurns(impl.EastLine),
	"WayLine": func(m impl.Map, p []impl.Place, n []float32, k []int64) string {
		return said(impl.WayLine(m, p[0], p[1], k[0]))
	},
	"MapBox": ofListTwo(impl.MapBox),
}

// mapOf returns the map of the first numbers and the first integer.
func mapOf(n []float32, k []int64) impl.Map {
	return impl.Map{Kind: k[0], Middle: at(n[0], n[1]), First: n[2]}
}

// callMap calls a function of chapter 3 with numbers and integers, those of its map first, and tells what it returns.
func callMap(name string, n []float32, k []int64) string {
	switch name {
	case "ZoneOf":
		return saidTwo(impl.ZoneOf(n[0], k[0]))
	case "CutPlaces":
		return said(impl.CutPlaces(placesOf(n[1:]), n[0]))
	}
	return ofMaps[name](mapOf(n, k), placesOf(n[3:]), n[3:], k[1:])
}

func plain(kind int64) impl.Map { return impl.Map{Kind: kind} }

func around(kind int64, north, east, first float32) impl.Map {
	return impl.Map{Kind: kind, Middle: at(north, east), First: first}
}

// mapsOf are maps of a kind, with different middles, among them poles and the border of the east, and with different Firsts, among them the limits.
func mapsOf(kind int64) []impl.Map {
	return []impl.Map{
		plain(kind), around(kind, 0.1, 0.3, 0.125), around(kind, -0.2, -0.45, -0.1), around(kind, 0.02, -0.5, 0.24),
		around(kind, 0.13, below(0.5), -0.24), around(kind, 0.25, minusZero(), num(1)), around(kind, -0.25, 0.125, minusZero()),
	}
}

func allMaps() []impl.Map {
	var list []impl.Map
	for kind := int64(impl.MapPlate); kind <= impl.MapFar; kind++ {
		list = append(list, mapsOf(kind)...)
	}
	return list
}

// wrongMaps are not valid, each by the least that is possible, or without being numbers.
func wrongMaps() []impl.Map {
	list := []impl.Map{plain(-1), plain(7), plain(math.MinInt64), plain(math.MaxInt64), plain(1 << 32)}
	for kind := int64(impl.MapPlate); kind <= impl.MapFar; kind++ {
		list = append(list, around(kind, 0, 0, above(0.24)), around(kind, 0, 0, above(-0.24)))
		for _, x := range []float32{float32(math.Inf(1)), float32(math.Inf(-1)), num(0x7fc00000)} {
			list = append(list, around(kind, 0.1, 0.1, x))
		}
		for _, p := range wrongPlaces() {
			list = append(list, impl.Map{Kind: kind, Middle: p})
		}
	}
	return list
}

// isRound reports whether courses from the middle are straight lines on a map.
func isRound(m impl.Map) bool { return m.Kind >= impl.MapStereo }

// exactEast is how far a place is east of the middle of a map, from -0.5 to 0.5.
func exactEast(m impl.Map, p impl.Place) float64 {
	return math.Remainder(float64(p.East)-float64(m.Middle.East), 1)
}

// isInside reports whether a place is well inside of a map, neither next to the border of the east, where the map is cut, nor opposite to the middle of a round one.
func isInside(m impl.Map, p impl.Place) bool {
	if isRound(m) {
		return exactApart(m.Middle, p) < 0.44
	}
	return math.Abs(exactEast(m, p)) < 0.498
}

// scaledPlaces are ordinary places where scales are measured, with the limits and the equator.
func scaledPlaces() []impl.Place {
	return append(ordinaryPlaces(), at(0.24, 0.1), at(-0.24, -0.2), at(0, 0), at(0.1, 0.3), at(-0.2, -0.45))
}

// spread returns n places, the same ones for the same n.
func spread(n int) []impl.Place {
	list := make([]impl.Place, n)
	for i := range list {
		list[i] = ordinaryPlaces()[(i*29+11)%64]
	}
	return list
}

func isNearly(got float32, want, by float64) bool { return math.Abs(float64(got)-want) <= by }

// leavesNone makes some calls at once, and checks that none of them leaves a goroutine behind.
func leavesNone(t *testing.T, calls int, call func(i int)) {
	t.Helper()
	before := runtime.NumGoroutine()
	var group sync.WaitGroup
	for i := range calls {
		group.Go(func() { call(i) })
	}
	group.Wait()
	// A goroutine that is joined may take a moment to end.
	for range 500 {
		if runtime.NumGoroutine() <= before {
			return
		}
		time.Sleep(10 * time.Millisecond)
	}
	t.Errorf("%d goroutines became %d", before, runtime.NumGoroutine())
}
