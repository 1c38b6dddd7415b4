package tests

import (
	"math"
	"slices"

	"loop.example/g01341/impl"
)

// heightCall is how a function of chapter 6 is called: g is its grid, n are the single numbers of its arguments, and k the integers behind the sides of g.
type heightCall struct {
	singles int
	call    func(g impl.Grid, n []float32, k []int64) string
}

// ofGround is the call of a function of a grid.
func ofGround[T any](f func(impl.Grid) (T, bool)) heightCall {
	return heightCall{0, func(g impl.Grid, n []float32, k []int64) string { return said(f(g)) }}
}

// ofLevel is the call of a function of a grid and a level.
func ofLevel[T any](f func(impl.Grid, float32) (T, bool)) heightCall {
	return heightCall{1, func(g impl.Grid, n []float32, k []int64) string { return said(f(g, n[0])) }}
}

// ofGrids has the functions of chapter 6 that take one grid. FlatGrid and ConeGrid take the sides of one.
var ofGrids = map[string]heightCall{
	"ValidGrid": {0, func(g impl.Grid, n []float32, k []int64) string { return words(true, impl.ValidGrid(g)) }},
	"FlatGrid":  {1, func(g impl.Grid, n []float32, k []int64) string { return said(impl.FlatGrid(g.Wide, g.High, n[0])) }},
	"ConeGrid": {4, func(g impl.Grid, n []float32, k []int64) string {
		return said(impl.ConeGrid(g.Wide, g.High, complex(n[0], n[1]), n[2], n[3]))
	}},
	"HeightAt": {2, func(g impl.Grid, n []float32, k []int64) string {
		return said(impl.HeightAt(g, complex(n[0], n[1])))
	}},
	"SlopeOfGrid": {0, func(g impl.Grid, n []float32, k []int64) string { return said(impl.SlopeOfGrid(g, k[0])) }},
	"ShadeOf": {3, func(g impl.Grid, n []float32, k []int64) string {
		return said(impl.ShadeOf(g, k[0], waysOf(n)[0]))
	}},
	"ShadesShared": {3, func(g impl.Grid, n []float32, k []int64) string {
		return said(impl.ShadesShared(g, waysOf(n)[0], k[0]))
	}},
	"ContourPieces": ofLevel(impl.ContourPieces),
	"ContourLines":  ofLevel(impl.ContourLines),
	"ProfileOf": {4, func(g impl.Grid, n []float32, k []int64) string {
		return said(impl.ProfileOf(g, complex(n[0], n[1]), complex(n[2], n[3]), k[0]))
	}},
	"SeesPlace": {2, func(g impl.Grid, n []float32, k []int64) string {
		return said(impl.SeesPlace(g, k[0], k[1], n[0], n[1], k[2]))
	}},
	"SeenFrom": {2, func(g impl.Grid, n []float32, k []int64) string {
		return said(impl.SeenFrom(g, k[0], n[0], n[1], k[1]))
	}},
	"DrainsOf":    ofGround(impl.DrainsOf),
	"SinksOf":     ofGround(impl.SinksOf),
	"FlowsOf":     ofGround(impl.FlowsOf),
	"FillPits":    {0, func(g impl.Grid, n []float32, k []int64) string { return saidTwo(impl.FillPits(g)) }},
	"PeaksOf":     ofGround(impl.PeaksOf),
	"SharesAbove": ofLevel(impl.SharesAbove),
	"MassAbove":   ofLevel(impl.MassAbove),
	"LeastWay": {1, func(g impl.Grid, n []float32, k []int64) string {
		return saidTwo(impl.LeastWay(g, k[0], k[1], n[0]))
	}},
	"RoughGrid": ofGround(impl.RoughGrid),
}

// callHeights calls a function of chapter 6 with numbers, single ones in front of heights, and integers, those of sides first, and tells what it returns.
func callHeights(name string, n []float32, k []int64) string {
	switch name {
	case "DropOf":
		return said(impl.DropOf(n[0], n[1]))
	case "SameGrid":
		return words(true, impl.SameGrid(twoGridsOf(n, k)))
	case "WeighGrids":
		a, b := twoGridsOf(n[2:], k)
		return said(impl.WeighGrids(a, b, n[0], n[1]))
	}
	f, ok := ofGrids[name]
	if !ok {
		return "no function " + name
	}
	return f.call(ground(k[0], k[1], n[f.singles:]...), n[:f.singles], k[2:])
}

// twoGridsOf returns two grids: the first four integers are their sides, and the next one tells how many heights the first one has.
func twoGridsOf(n []float32, k []int64) (impl.Grid, impl.Grid) {
	return ground(k[0], k[1], n[:k[4]]...), ground(k[2], k[3], n[k[4]:]...)
}

// ground returns a grid of these heights.
func ground(wide, high int64, heights ...float32) impl.Grid {
	return impl.Grid{Wide: wide, High: high, Heights: heights}
}

// heightWordsOf writes the sides and the heights of grids, and what is seen as digits.
func heightWordsOf(x any) []string {
	switch v := x.(type) {
	case impl.Grid:
		return []string{words(true, v.Wide, v.High, v.Heights)}
	case []bool:
		digits := ""
		for _, seen := range v {
			if seen {
				digits += "1"
			} else {
				digits += "0"
			}
		}
		return []string{"[" + digits + "]"}
	}
	return tileWordsOf(x)
}

// hills returns a grid whose heights, from 0 to less than 8, depend on the seed. Every other seed has whole ones, so that many of them are equal.
func hills(wide, high int64, seed int) impl.Grid {
	g := ground(wide, high)
	for _, z := range tangle(int(wide*high), seed) {
		height := real(z)
		if seed%2 == 1 {
			height = float32(int(height))
		}
		g.Heights = append(g.Heights, height)
	}
	return g
}

// oddGround returns a grid of odd finite heights: zeros with both signs, subnormal numbers and very large ones.
func oddGround(wide, high int64, seed int) impl.Grid {
	g := ground(wide, high)
	for i, z := range wideLine(int(wide*high), seed) {
		height := real(z)
		if seed%3 == 1 && i%4 < 3 {
			height = imag(z)
		}
		g.Heights = append(g.Heights, height)
	}
	return g
}

// level returns a grid of equal heights.
func level(wide, high int64, height float32) impl.Grid {
	return ground(wide, high, slices.Repeat([]float32{height}, int(wide*high))...)
}

// withHeight returns a grid with another height of a place.
func withHeight(g impl.Grid, i int64, height float32) impl.Grid {
	heights := slices.Clone(g.Heights)
	heights[i] = height
	return ground(g.Wide, g.High, heights...)
}

// someGrids are valid grids with few and with many places, the smallest and the largest ones among them.
func someGrids() []impl.Grid {
	list := []impl.Grid{level(2, 2, 0), level(16, 16, -3), level(2, 16, minusZero()), level(16, 2, num(1)), level(3, 3, largest())}
	for seed := range 60 {
		wide, high := int64(2+seed%6), int64(2+seed/2%5)
		list = append(list, hills(wide, high, seed))
	}
	return append(list, hills(16, 16, 1), hills(16, 16, 2), hills(2, 16, 3), hills(16, 2, 4), hills(15, 16, 5))
}

// oddGrids are valid grids with odd heights.
func oddGrids() []impl.Grid {
	var list []impl.Grid
	for seed := range 30 {
		list = append(list, oddGround(int64(2+seed%4), int64(2+seed%5), seed))
	}
	return append(list, oddGround(16, 16, 7))
}

// wrongGrids are not valid: a side is too short or too long, there are too few or too many heights, or one is not finite.
func wrongGrids() []impl.Grid {
	list := []impl.Grid{{}, ground(1, 4, 1, 2, 3, 4), ground(4, 1, 1, 2, 3, 4), ground(0, 0), ground(0, 2), ground(-2, -2, 1, 2, 3, 4), ground(-2, 2), ground(2, 2)}
	list = append(list, ground(17, 2, make([]float32, 34)...), ground(2, 17, make([]float32, 34)...), ground(17, 17, make([]float32, 289)...))
	list = append(list, ground(2, 2, 1, 2, 3), ground(2, 2, 1, 2, 3, 4, 5), ground(16, 16, make([]float32, 255)...), ground(16, 16, make([]float32, 257)...))
	for _, n := range []int64{1 << 32, 1 << 62, math.MaxInt64, math.MinInt64, 1<<32 + 2} {
		list = append(list, ground(n, n), ground(n, 2, 1, 2, 3, 4), ground(2, n, 1, 2, 3, 4))
	}
	for _, x := range wrongNumbers() {
		list = append(list, ground(2, 2, x, 2, 3, 4), ground(2, 2, 1, x, 3, 4), ground(2, 2, 1, 2, 3, x), level(3, 2, x))
	}
	return list
}

// wrongIndices are no indices of places of a grid.
func wrongIndices(g impl.Grid) []int64 {
	count := int64(len(g.Heights))
	return []int64{-1, count, count + 1, -count, 1 << 32, math.MinInt64, math.MaxInt64}
}

// beside returns the neighbours of a place, row by row.
func beside(g impl.Grid, i int64) []int64 {
	var list []int64
	for k := range int64(len(g.Heights)) {
		across, up := k%g.Wide-i%g.Wide, k/g.Wide-i/g.Wide
		if k != i && across*across <= 1 && up*up <= 1 {
			list = append(list, k)
		}
	}
	return list
}

// isOuter reports whether a place is at the edge of a grid.
func isOuter(g impl.Grid, i int64) bool {
	x, y := i%g.Wide, i/g.Wide
	return x == 0 || y == 0 || x == g.Wide-1 || y == g.High-1
}
