package tests

import (
	"fmt"
	"slices"
	"sync"
	"testing"

	"loop.example/g01341/impl"
)

// allGrids are valid grids, with ordinary and with odd heights, and other ones.
func allGrids() []impl.Grid { return slices.Concat(someGrids(), oddGrids(), wrongGrids()) }

// Promise 1: each function returns for all arguments, and equal results for equal arguments.
func TestHeightsReturnForAllArguments(t *testing.T) {
	numbers, integers := oddNumbers(), oddIntegers()
	for _, f := range ofGrids {
		alike(t, allGrids(), func(g impl.Grid) string {
			all := ""
			for i := range 30 {
				var n []float32
				var k []int64
				for c := range 4 {
					n = append(n, numbers[(i*(2*c+7)+c+len(g.Heights))%len(numbers)])
					k = append(k, int64(i*(c+1))%int64(len(g.Heights)+1))
				}
				switch i % 5 {
				case 0:
					n = []float32{float32(i%7) / 4, 0.5, 0.75, 1}
				case 1:
					k[i%4] = integers[i%len(integers)]
				case 2:
					n[i%4] = 1
				}
				all += f.call(g, n[:f.singles], k)
			}
			return all
		})
	}
}

func TestPairsOfGridsReturnForAllArguments(t *testing.T) {
	grids, numbers := allGrids(), oddNumbers()
	alike(t, grids, func(g impl.Grid) string {
		all := ""
		for i, x := range numbers {
			other := grids[(i*5+len(g.Heights))%len(grids)]
			y := numbers[(i*11+3)%len(numbers)]
			all += fmt.Sprint(impl.SameGrid(g, other), impl.SameGrid(other, g), impl.SameGrid(g, g))
			all += said(impl.WeighGrids(g, other, x, y)) + said(impl.WeighGrids(other, g, 1, -1)) + said(impl.WeighGrids(g, g, x, y)) + said(impl.DropOf(x, y)) + said(impl.DropOf(x, 0.5))
		}
		return all
	})
}

// Promise 1: the limits of integers, and what lies beyond them, are no argument for which a function does not return.
func TestHeightsReturnForAllIntegers(t *testing.T) {
	grids := []impl.Grid{hills(3, 4, 1), hills(16, 16, 2), {}}
	alike(t, append(oddIntegers(), 2, 3, 8, 9, 11, 12, 16, 17, 63, 64, 65, 255, 256), func(k int64) string {
		all := ""
		for _, g := range grids {
			for _, other := range append(oddIntegers(), 2, 5, 16) {
				all += said(impl.FlatGrid(k, other, 1)) + said(impl.ConeGrid(other, k, 1, 2, 3))
				all += said(impl.SlopeOfGrid(g, k)) + said(impl.ShadeOf(g, k, impl.Way{X: 1})) + said(impl.ShadesShared(g, impl.Way{Z: 1}, k)) + said(impl.ProfileOf(g, 0, 1, k))
				all += said(impl.SeesPlace(g, k, other, 1, 0, 5)) + said(impl.SeesPlace(g, 1, other, 1, 0, k)) + said(impl.SeenFrom(g, k, 1, 0, other)) + saidTwo(impl.LeastWay(g, k, other, 1))
				all += fmt.Sprint(impl.ValidGrid(ground(k, other, g.Heights...)))
			}
		}
		return all
	})
}

// callAll calls all functions of chapter 6 that take a grid.
func callAll(g impl.Grid) {
	last := int64(len(g.Heights)) - 1
	impl.ValidGrid(g)
	impl.SameGrid(g, g)
	impl.WeighGrids(g, g, 2, 3)
	impl.HeightAt(g, 0.5+0.25i)
	impl.HeightAt(g, complex(float32(g.Wide-1), float32(g.High-1)))
	impl.SlopeOfGrid(g, last)
	impl.ShadeOf(g, 0, impl.Way{X: 1, Y: 2, Z: 3})
	impl.ShadesShared(g, impl.Way{X: 1, Y: 2, Z: 3}, 3)
	impl.ContourPieces(g, 1)
	impl.ContourLines(g, 1)
	impl.ProfileOf(g, 0, 1+1i, 7)
	impl.SeesPlace(g, 0, last, 1, 0.5, 9)
	impl.SeenFrom(g, last, 1, 0.5, 9)
	impl.DrainsOf(g)
	impl.SinksOf(g)
	impl.FlowsOf(g)
	impl.FillPits(g)
	impl.PeaksOf(g)
	impl.SharesAbove(g, 1)
	impl.MassAbove(g, 1)
	impl.LeastWay(g, 0, last, 1)
	impl.RoughGrid(g)
}

// Promise 1: no function modifies its heights, or what lies behind them.
func TestHeightsAreNotModified(t *testing.T) {
	for _, g := range allGrids() {
		unchanged(t, "a function of a grid", g.Heights, 77, func(heights []float32) {
			callAll(ground(g.Wide, g.High, heights...))
			impl.WeighGrids(g, ground(g.Wide, g.High, heights...), 2, 3)
		})
	}
}

// Promise 1: returned lists are new, each time, with their unused capacity.
func TestReturnedHeightsAreNew(t *testing.T) {
	g := hills(7, 6, 3)
	light := impl.Way{X: 1, Y: 2, Z: 3}
	heightsOf := func(g impl.Grid, ok bool) ([]float32, bool) { return g.Heights, ok }
	numbers := map[string]func() ([]float32, bool){
		"FlatGrid":     func() ([]float32, bool) { return heightsOf(impl.FlatGrid(3, 4, 5)) },
		"ConeGrid":     func() ([]float32, bool) { return heightsOf(impl.ConeGrid(3, 4, 1, 5, 2)) },
		"WeighGrids":   func() ([]float32, bool) { return heightsOf(impl.WeighGrids(g, g, 1, 0)) },
		"ShadesShared": func() ([]float32, bool) { return impl.ShadesShared(g, light, 4) },
		"ProfileOf":    func() ([]float32, bool) { return impl.ProfileOf(g, 0, 2+2i, 9) },
		"FillPits": func() ([]float32, bool) {
			filled, _, ok := impl.FillPits(g)
			return filled.Heights, ok
		},
	}
	for name, call := range numbers {
		spoil(t, name, "", func(string) ([]float32, bool) { return call() })
	}
	integers := map[string]func() ([]int64, bool){
		"DrainsOf": func() ([]int64, bool) { return impl.DrainsOf(g) },
		"SinksOf":  func() ([]int64, bool) { return impl.SinksOf(g) },
		"FlowsOf":  func() ([]int64, bool) { return impl.FlowsOf(g) },
		"PeaksOf":  func() ([]int64, bool) { return impl.PeaksOf(g) },
		"LeastWay": func() ([]int64, bool) {
			way, _, ok := impl.LeastWay(g, 0, 41, 1)
			return way, ok
		},
		"LeastWay from a place to itself": func() ([]int64, bool) {
			way, _, ok := impl.LeastWay(g, 5, 5, 1)
			return way, ok
		},
	}
	for name, call := range integers {
		spoil(t, name, "", func(string) ([]int64, bool) { return call() })
	}
	spoil(t, "SeenFrom", "", func(string) ([]bool, bool) { return impl.SeenFrom(g, 0, 1, 0, 9) })
	spoil(t, "ContourPieces", "", func(string) ([]complex64, bool) { return impl.ContourPieces(g, 3.5) })
	spoil(t, "ContourLines", "", func(string) ([][]complex64, bool) { return impl.ContourLines(g, 3.5) })
}

// Promise 1: the lines of a level share no memory with one another.
func TestContourLinesShareNothing(t *testing.T) {
	for seed := range 20 {
		lines, _ := impl.ContourLines(hills(9, 9, seed), 3.5)
		want, _ := impl.ContourLines(hills(9, 9, seed), 3.5)
		if len(lines) < 2 {
			t.Fatalf("grid %d has only %d lines", seed, len(lines))
		}
		for i, line := range lines {
			whole := line[:cap(line)]
			for k := range whole {
				whole[k] = 77
			}
			if len(lines) > i+1 && tell(lines[i+1:]) != tell(want[i+1:]) {
				t.Errorf("grid %d: line %d shares memory with another one", seed, i)
			}
			if len(line) != len(want[i]) {
				t.Errorf("grid %d: line %d has %d points, and %d again", seed, i, len(want[i]), len(line))
			}
		}
	}
}

// Promise 1: heights that have been filled are not those of the argument, even if no pit was there.
func TestFilledHeightsAreNew(t *testing.T) {
	g := level(4, 4, 2)
	filled, _, _ := impl.FillPits(g)
	filled.Heights[5] = 9
	weighed, _ := impl.WeighGrids(g, g, 1, 0)
	weighed.Heights[5] = 9
	expect(t, "the heights of the argument", g.Heights, level(4, 4, 2).Heights)
}

// Promise 1: many calls at once return what each of them returns alone, and leave no goroutine behind.
func TestShadesAtOnce(t *testing.T) {
	g, light := hills(16, 16, 8), impl.Way{X: -1, Y: 0.5, Z: 1}
	want, ok := impl.ShadesShared(g, light, 1)
	if !ok {
		t.Fatal("ShadesShared fails")
	}
	var lock sync.Mutex
	leavesNone(t, 64, func(i int) {
		got, ok := impl.ShadesShared(g, light, int64(i%impl.MaxWorkers)+1)
		lock.Lock()
		defer lock.Unlock()
		if !ok || tell(got) != tell(want) {
			t.Errorf("%d workers find %v, %v", i%impl.MaxWorkers+1, got, ok)
		}
	})
	steep := withHeight(withHeight(g, 3, largest()), 5, -largest())
	leavesNone(t, 64, func(i int) {
		if got, ok := impl.ShadesShared(steep, light, int64(i%impl.MaxWorkers)+1); got != nil || ok {
			lock.Lock()
			defer lock.Unlock()
			t.Errorf("%d workers find %v, %v, but must fail", i%impl.MaxWorkers+1, got, ok)
		}
	})
}
