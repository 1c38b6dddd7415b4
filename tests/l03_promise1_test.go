package tests

import (
	"fmt"
	"testing"

	"loop.example/g01341/impl"
)

// oddMaps are valid and invalid ones.
func oddMaps() []impl.Map {
	list := append(allMaps(), wrongMaps()...)
	for i, x := range oddNumbers() {
		kind := int64(i % 9)
		list = append(list, around(kind, 0.1, -0.2, x), around(kind, x, 0.2, 0.1), around(kind-1, -0.1, x, 0.1))
	}
	return list
}

// Promise 1: each function returns for all arguments, and equal results for equal arguments.
func TestMapsReturnForAllArguments(t *testing.T) {
	places, numbers, integers := oddPlaces(), oddNumbers(), oddIntegers()
	for name := range ofMaps {
		times := 30
		if name == "FitFirst" {
			times = 3
		}
		alike(t, oddMaps(), func(m impl.Map) string {
			all := fmt.Sprint(impl.ValidMap(m), impl.SameMap(m, plain(0)))
			for i := range times {
				n := []float32{m.Middle.North, m.Middle.East, m.First}
				for k := range 3 {
					p := places[(i*(3*k+7)+5*k)%len(places)]
					n = append(n, p.North, p.East)
				}
				if i%3 == 0 {
					n[3+i%6] = numbers[i%len(numbers)]
				}
				k := []int64{m.Kind, int64(i % 7), int64(i%9 + 1)}
				if i%4 == 0 {
					k[1+i/4%2] = integers[i%len(integers)]
				}
				all += callMap(name, n, k)
			}
			return all
		})
	}
}

func TestPointsReturnForAllArguments(t *testing.T) {
	maps := oddMaps()
	alike(t, oddComplex(), func(z complex64) string {
		all := ""
		for _, m := range maps[:60] {
			all += said(impl.PlaceOf(m, z))
		}
		return all
	})
	alike(t, oddNumbers(), func(x float32) string {
		all := ""
		for _, n := range oddIntegers() {
			all += saidTwo(impl.ZoneOf(x, n)) + saidTwo(impl.ZoneOf(x, n%60)) + said(impl.NorthLine(maps[0], x, n)) + said(impl.EastLine(maps[1], x, n))
			all += said(impl.ZoneMap(maps[2], n, 60)) + said(impl.ZoneMap(maps[2], 1, n))
		}
		for i := range oddPlaces() {
			all += said(impl.CutPlaces(oddPlaces()[i:min(i+9, len(oddPlaces()))], x)) + said(impl.CutPlaces(allPlaces()[i:i+9], x))
		}
		return all
	})
}

// Promise 1: no function modifies its lists, or what lies behind them.
func TestPlacesOnMapsAreNotModified(t *testing.T) {
	for _, m := range []impl.Map{plain(impl.MapPlate), around(impl.MapEven, 0.1, -0.5, 0.2), around(impl.MapFar, 0.25, 0.1, 0), plain(9)} {
		for _, n := range []int{0, 1, 2, 5, 63, 64, 65} {
			unchanged(t, "a function of maps", allPlaces()[30:30+n], at(77, 78), func(list []impl.Place) {
				impl.PointsOf(m, list)
				impl.PointsShared(m, list, 3)
				impl.WorstScales(m, list)
				impl.BendOfMap(m, list)
				impl.FitFirst(m, list[:min(n, 5)])
				impl.CutPlaces(list, 0.2)
				impl.CutPlaces(list[:n/2], -0.5)
				impl.MapBox(m, list)
			})
		}
	}
}

// Promise 1: returned lists are new, each time, with their unused capacity.
func TestReturnedPointsAreNew(t *testing.T) {
	m, list := around(impl.MapWave, 0, 0.3, 0), spread(33)
	lists := map[string]func() ([]complex64, bool){
		"PointsOf":     func() ([]complex64, bool) { return impl.PointsOf(m, list) },
		"PointsShared": func() ([]complex64, bool) { return impl.PointsShared(m, list, 5) },
		"NorthLine":    func() ([]complex64, bool) { return impl.NorthLine(m, 0.1, 9) },
		"EastLine":     func() ([]complex64, bool) { return impl.EastLine(m, 0.1, 9) },
		"WayLine":      func() ([]complex64, bool) { return impl.WayLine(m, list[0], list[1], 9) },
	}
	for name, call := range lists {
		spoil(t, name, "", func(string) ([]complex64, bool) { return call() })
	}
	for _, i := range []int{0, 1} {
		spoil(t, "CutPlaces", "", func(string) ([]impl.Place, bool) {
			parts, ok := impl.CutPlaces(list, 0.1)
			return parts[i], ok
		})
	}
}
