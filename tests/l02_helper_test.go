package tests

import (
	"fmt"
	"math"
	"slices"
	"strconv"
	"strings"
	"testing"

	"loop.example/g01341/impl"
)

// words writes the numbers of results one by one, and only that a function fails if it returns nothing else then.
func words(ok bool, results ...any) string {
	var list []string
	for _, x := range results {
		list = append(list, wordsOf(x)...)
	}
	all := strings.Join(list, " ")
	if ok {
		return all
	}
	if strings.Trim(strings.NewReplacer("[]", "", "''", "", "false", "").Replace(all), "i0 ") != "" {
		return "fails, but returns " + all
	}
	return "fails"
}

func wordsOf(x any) []string {
	switch v := x.(type) {
	case impl.Place:
		return []string{tell(v.North), tell(v.East)}
	case impl.Way:
		return []string{tell(v.X), tell(v.Y), tell(v.Z)}
	case int64:
		return []string{fmt.Sprintf("i%d", v)}
	case impl.Map:
		return []string{words(true, v.Kind, v.Middle, v.First)}
	case []impl.Place:
		return []string{"[" + words(true, anyOf(v)...) + "]"}
	case [][]impl.Place:
		return []string{words(true, anyOf(v)...)}
	}
	return surveyWordsOf(x)
}

func anyOf[T any](list []T) []any {
	all := make([]any, len(list))
	for i, x := range list {
		all[i] = x
	}
	return all
}

// said is what a function with one result and its success returns.
func said[T any](x T, ok bool) string { return words(ok, x) }

// saidTwo is what a function with two results and its success returns.
func saidTwo[T, U any](x T, y U, ok bool) string { return words(ok, x, y) }

func placesOf(n []float32) []impl.Place {
	var list []impl.Place
	for i := 0; i+1 < len(n); i += 2 {
		list = append(list, impl.Place{North: n[i], East: n[i+1]})
	}
	return list
}

func waysOf(n []float32) []impl.Way {
	var list []impl.Way
	for i := 0; i+2 < len(n); i += 3 {
		list = append(list, impl.Way{X: n[i], Y: n[i+1], Z: n[i+2]})
	}
	return list
}

// ofPlaces has the functions of chapter 2 that take places, and numbers behind them, n of which are given in all; 0 is any number of places.
var ofPlaces = map[string]struct {
	n    int
	call func(p []impl.Place, n []float32) string
}{
	"WayOf":      {2, func(p []impl.Place, n []float32) string { return said(impl.WayOf(p[0])) }},
	"ApartOf":    {4, func(p []impl.Place, n []float32) string { return said(impl.ApartOf(p[0], p[1])) }},
	"CourseTo":   {4, func(p []impl.Place, n []float32) string { return said(impl.CourseTo(p[0], p[1])) }},
	"GoFrom":     {4, func(p []impl.Place, n []float32) string { return said(impl.GoFrom(p[0], n[2], n[3])) }},
	"MidwayOf":   {4, func(p []impl.Place, n []float32) string { return said(impl.MidwayOf(p[0], p[1])) }},
	"ShareOfWay": {5, func(p []impl.Place, n []float32) string { return said(impl.ShareOfWay(p[0], p[1], n[4])) }},
	"OppositeOf": {2, func(p []impl.Place, n []float32) string { return said(impl.OppositeOf(p[0])) }},
	"SideOf":     {6, func(p []impl.Place, n []float32) string { return said(impl.SideOf(p[0], p[1], p[2])) }},
	"OffWay":     {6, func(p []impl.Place, n []float32) string { return said(impl.OffWay(p[0], p[1], p[2])) }},
	"MeetOfWays": {8, func(p []impl.Place, n []float32) string { return said(impl.MeetOfWays(p[0], p[1], p[2], p[3])) }},
	"AreaOfTriangle": {6, func(p []impl.Place, n []float32) string {
		return said(impl.AreaOfTriangle(p[0], p[1], p[2]))
	}},
	"AreaOfPlaces":  {0, func(p []impl.Place, n []float32) string { return said(impl.AreaOfPlaces(p)) }},
	"LongOfPlaces":  {0, func(p []impl.Place, n []float32) string { return said(impl.LongOfPlaces(p, false)) }},
	"LongOfRound":   {0, func(p []impl.Place, n []float32) string { return said(impl.LongOfPlaces(p, true)) }},
	"BoxOfPlaces":   {0, func(p []impl.Place, n []float32) string { return saidTwo(impl.BoxOfPlaces(p)) }},
	"MeanPlace":     {0, func(p []impl.Place, n []float32) string { return said(impl.MeanPlace(p)) }},
	"NearestPlace":  {0, func(p []impl.Place, n []float32) string { return saidTwo(impl.NearestPlace(p[1:], p[0])) }},
	"CompassCourse": {4, func(p []impl.Place, n []float32) string { return said(impl.CompassCourse(p[0], p[1])) }},
	"CompassLong":   {4, func(p []impl.Place, n []float32) string { return said(impl.CompassLong(p[0], p[1])) }},
	"StepsOf":       {2, func(p []impl.Place, n []float32) string { return saidTwo(impl.StepsOf(p[0])) }},
}

// ofNumbers has the functions of chapter 2 that take n numbers or ways, and an integer behind them.
var ofNumbers = map[string]struct {
	n    int
	call func(n []float32, w []impl.Way, k int64) string
}{
	"WrapEast":   {1, func(n []float32, w []impl.Way, k int64) string { return said(impl.WrapEast(n[0])) }},
	"DotWays":    {6, func(n []float32, w []impl.Way, k int64) string { return said(impl.DotWays(w[0], w[1])) }},
	"CrossWays":  {6, func(n []float32, w []impl.Way, k int64) string { return said(impl.CrossWays(w[0], w[1])) }},
	"LongOfWay":  {3, func(n []float32, w []impl.Way, k int64) string { return said(impl.LongOfWay(w[0])) }},
	"PlaceOfWay": {3, func(n []float32, w []impl.Way, k int64) string { return said(impl.PlaceOfWay(w[0])) }},
	"StretchNorth": {1, func(n []float32, w []impl.Way, k int64) string {
		return said(impl.StretchNorth(n[0]))
	}},
	"FlatNorth": {2, func(n []float32, w []impl.Way, k int64) string { return said(impl.FlatNorth(n[0], n[1])) }},
	"BackNorth": {2, func(n []float32, w []impl.Way, k int64) string { return said(impl.BackNorth(n[0], n[1])) }},
	"MeridianLong": {2, func(n []float32, w []impl.Way, k int64) string {
		return said(impl.MeridianLong(n[0], n[1], k))
	}},
}

// callBall calls a function of chapter 2 with numbers, and integers behind them, and tells what it returns.
func callBall(name string, n []float32, k []int64) string {
	if name == "PlaceOfSteps" {
		return said(impl.PlaceOfSteps(k[0], k[1]))
	}
	if f, ok := ofPlaces[name]; ok {
		return f.call(placesOf(n), n)
	}
	last := int64(0)
	if len(k) > 0 {
		last = k[0]
	}
	return ofNumbers[name].call(n, waysOf(n), last)
}

// checkRow checks a row with the name of a function, its arguments, "=", and what it returns; call calls it.
func checkRow(t *testing.T, row string, call func(name string, n []float32, k []int64) string) {
	t.Helper()
	args, want, _ := strings.Cut(row, " = ")
	fields := strings.Fields(args)
	var n []float32
	var k []int64
	for _, word := range fields[1:] {
		if digits, ok := strings.CutPrefix(word, "i"); ok {
			integer, _ := strconv.ParseInt(digits, 10, 64)
			k = append(k, integer)
			continue
		}
		bits, _ := strconv.ParseUint(word, 16, 32)
		n = append(n, num(uint32(bits)))
	}
	if got := call(fields[0], n, k); got != want {
		t.Errorf("%s: got %s, want %s", args, got, want)
	}
}

func at(north, east float32) impl.Place { return impl.Place{North: north, East: east} }

// below returns the next number nearer to 0.
func below(x float32) float32 { return math.Nextafter32(x, 0) }

// above returns the next number farther from 0.
func above(x float32) float32 {
	if x < 0 {
		return -above(-x)
	}
	return math.Nextafter32(x, float32(math.Inf(1)))
}

func minusZero() float32 { return num(1 << 31) }

// ordinaryPlaces are spread over the ball, without poles and the border of the east.
func ordinaryPlaces() []impl.Place {
	var list []impl.Place
	for _, north := range []float32{-0.2, -0.125, -0.03, 0, 0.01, 0.07, 0.16, 0.22} {
		for _, east := range []float32{-0.45, -0.3, -0.125, 0, 0.05, 0.21, 0.33, 0.48} {
			list = append(list, at(north, east))
		}
	}
	return list
}

// edgePlaces are poles, opposite places, and places beside the border of the east, with zeros of both signs and subnormal numbers.
func edgePlaces() []impl.Place {
	norths := []float32{0.25, below(0.25), num(1), 0, minusZero(), -num(0x7fffff), -0.125, -0.25}
	easts := []float32{-0.5, below(-0.5), -0.25, minusZero(), 0, num(1), 0.25, below(0.5)}
	var list []impl.Place
	for _, north := range norths {
		for _, east := range easts {
			list = append(list, at(north, east))
		}
	}
	return list
}

// wrongPlaces are not valid, each by the least that is possible, or without being numbers.
func wrongPlaces() []impl.Place {
	inf, none := float32(math.Inf(1)), num(0x7fc00000)
	list := []impl.Place{at(above(0.25), 0), at(above(-0.25), 0), at(0, 0.5), at(0, above(-0.5)), at(1, 0), at(0, 1)}
	for _, x := range []float32{inf, -inf, none} {
		list = append(list, at(x, 0), at(0, x))
	}
	return list
}

func allPlaces() []impl.Place { return slices.Concat(ordinaryPlaces(), edgePlaces()) }
