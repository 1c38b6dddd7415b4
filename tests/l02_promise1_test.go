package tests

import (
	"fmt"
	"slices"
	"testing"

	"loop.example/g01341/impl"
)

// oddPlaces are valid and invalid ones.
func oddPlaces() []impl.Place {
	list := wrongPlaces()
	for i, p := range allPlaces() {
		if i%5 == 0 {
			list = append(list, p)
		}
	}
	for i, x := range oddNumbers() {
		list = append(list, at(x, oddNumbers()[(i*7)%len(oddNumbers())]))
	}
	return list
}

// Promise 1: each function returns for all arguments, and equal results for equal arguments.
func TestBallReturnsForAllArguments(t *testing.T) {
	places, numbers := oddPlaces(), oddNumbers()
	for name, f := range ofPlaces {
		alike(t, places, func(p impl.Place) string {
			all := fmt.Sprint(impl.ValidPlace(p), impl.SamePlace(p, places[7]))
			for i := range places {
				args := []float32{p.North, p.East}
				for k := range 3 {
					q := places[(i*(k+1)+k)%len(places)]
					args = append(args, q.North, q.East)
				}
				if f.n == 5 || name == "GoFrom" {
					args[f.n-1] = numbers[i%len(numbers)]
				}
				if f.n > 0 {
					args = args[:f.n]
				}
				all += callBall(name, args, nil)
			}
			return all
		})
	}
}

func TestWaysReturnForAllArguments(t *testing.T) {
	numbers := oddNumbers()
	for name, f := range ofNumbers {
		alike(t, numbers, func(x float32) string {
			all := ""
			for i := range numbers {
				args := []float32{x}
				for k := range f.n - 1 {
					args = append(args, numbers[(i*(k+1)+k)%len(numbers)])
				}
				all += callBall(name, args, []int64{int64(i)})
			}
			return all
		})
	}
	alike(t, oddIntegers(), func(n int64) string {
		all := ""
		for _, k := range oddIntegers() {
			all += said(impl.PlaceOfSteps(n, k)) + said(impl.MeridianLong(0.1, 0.2, n))
		}
		return all
	})
}

// Promise 1: no function modifies its lists, or what lies behind them.
func TestPlacesAreNotModified(t *testing.T) {
	guard := at(77, 78)
	for _, n := range []int{0, 1, 2, 5, 63, 64, 65} {
		unchanged(t, "a function of places", allPlaces()[30:30+n], guard, func(list []impl.Place) {
			impl.ArePlaces(list)
			impl.AreaOfPlaces(list)
			impl.LongOfPlaces(list, false)
			impl.LongOfPlaces(list, true)
			impl.BoxOfPlaces(list)
			impl.MeanPlace(list)
			impl.NearestPlace(list, at(0.1, 0.1))
		})
	}
	wrong := wrongPlaces()
	unchanged(t, "a function of wrong places", wrong, guard, func(list []impl.Place) {
		impl.ArePlaces(list)
		impl.BoxOfPlaces(slices.Clip(list))
		impl.MeanPlace(list)
	})
}
