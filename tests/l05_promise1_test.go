package tests

import (
	"fmt"
	"testing"

	"loop.example/g01341/impl"
)

// oddMarks are marks and lists that are none, with ordinary and with odd points.
func oddMarks() [][]complex64 {
	lists := append(wrongMarks(), []complex64{0}, []complex64{1, 1}, square(0, 4), zigzag(32), tangle(32, 3), []complex64{0, 1, 2}, []complex64{0, 1i, 3i, 2i})
	for seed := range 25 {
		n := seed%7 + 1
		lists = append(lists, oddLine(n, seed), wideLine(n, seed), lattice(n, seed), tangle(n, seed))
	}
	return lists
}

// Promise 1: each function returns for all arguments, and equal results for equal arguments.
func TestPlotsReturnForAllArguments(t *testing.T) {
	numbers, singles := oddNumbers(), map[string]int{"WalkLegs": 2, "CloseWalk": 2, "CutPlot": 1, "MeetTurns": 6, "MeetLongs": 6}
	for name := range ofPlot {
		alike(t, oddMarks(), func(marks []complex64) string {
			all := ""
			for i := range 12 {
				n, _ := numbersOf(marks)
				var front []float32
				for k := range 6 {
					front = append(front, numbers[(i*(2*k+7)+k+len(marks))%len(numbers)])
				}
				if i%3 == 0 {
					front = []float32{1, -1, 3, 2, 0.5, 4}
				}
				if i%4 == 1 {
					n = append(n, front...)
				}
				k := []int64{int64(min(len(n)/2, len(n)*i/16))}
				all += callSurveys(name, append(front[:singles[name]], n...), k)
			}
			return all
		})
	}
}

func TestFramesReturnForAllArguments(t *testing.T) {
	lists, numbers := oddMarks(), oddNumbers()
	alike(t, oddFrames(), func(f impl.Frame) string {
		all := fmt.Sprint(impl.ValidFrame(f)) + said(impl.FrameBack(f))
		for i, g := range oddFrames() {
			all += said(impl.JoinFrames(f, g)) + said(impl.FrameAt(f, g.Turn)) + said(impl.MissesOf(f, lists[i%len(lists)], lists[(i*3+1)%len(lists)])) + said(impl.MissesOf(f, lists[i%len(lists)], lists[i%len(lists)]))
		}
		return all
	})
	alike(t, lists, func(from []complex64) string {
		all := ""
		for i, to := range lists {
			limit := numbers[i%len(numbers)]
			all += saidTwo(impl.FitFrame(from, to)) + saidTwo(impl.DropWorst(from, to, limit)) + said(impl.SkewFit(from, to))
		}
		return all
	})
}

// oddRises are rises and lists that are none.
func oddRises() [][]impl.Rise {
	integers := oddIntegers()
	lists := append(rounds()[:60], nil, chainOf(10, 9, 9), chainOf(32, -9, 9), chainOf(33, 1, 1), backAndForth(32, impl.MaxSmall, impl.MaxSmall), wrongRises())
	for i, r := range wrongRises() {
		n := integers[i%len(integers)]
		lists = append(lists, []impl.Rise{r}, []impl.Rise{r, r}, []impl.Rise{rise(0, 1, 5, 1), r, rise(1, 2, 3, 1)}, []impl.Rise{rise(n, 1, 5, 1), rise(1, n, n, 3)}, []impl.Rise{rise(0, 1, n, 1), rise(1, 0, 3, n)})
	}
	return lists
}

func TestRisesReturnForAllArguments(t *testing.T) {
	alike(t, oddRises(), func(rises []impl.Rise) string {
		all := said(impl.RiseMiss(rises)) + said(impl.ShareMiss(rises))
		for _, count := range append(oddIntegers(), 2, 3, 5, 10, 11, 12, 31, 32, 33) {
			all += fmt.Sprint(impl.AreRises(rises, count)) + said(impl.RiseHeights(rises, count)) + saidTwo(impl.RiseSquares(rises, count))
		}
		return all
	})
	numbers := oddNumbers()
	var starts []int
	for i := range numbers {
		starts = append(starts, i)
	}
	alike(t, starts, func(start int) string {
		list := append(append([]float32{}, numbers[start:]...), numbers[:start]...)
		list = append(list, list...)
		all := ""
		for n := range 12 {
			for _, size := range []int{0, n, n*n - 1, n * n, n*n + 1} {
				if size >= 0 && size <= len(list) && n <= len(list) {
					all += said(impl.SolveEven(list[:size], list[:n]))
				}
			}
		}
		return all
	})
}

// Promise 1: no function modifies its lists, or what lies behind them.
func TestSurveysAreNotModified(t *testing.T) {
	for i, marks := range append(oddMarks(), ordinaryMarks()...) {
		turns := make([]float32, len(marks))
		for k := range turns {
			turns[k] = float32(k)*0.3 + float32(i)
		}
		unchanged(t, "a function of marks", marks, 77+78i, func(list []complex64) {
			impl.AreMarks(list)
			impl.LegsOf(list)
			impl.CloseWalk(list, 3+1i)
			impl.MeetMany(list, turns)
			impl.FitFrame(list, list)
			impl.FitFrame(list, turned(list))
			impl.FitFrame(turned(list), list)
			impl.MissesOf(frame(1i, 2), list, list)
			impl.DropWorst(list, turned(list), 0.1)
			impl.DropWorst(turned(list), list, 0.1)
			impl.DropWorst(list, list, 0)
			impl.SkewFit(list, turned(list))
			impl.SkewFit(turned(list), list)
			impl.PlotArea(list)
			impl.CutPlot(list, 0.4)
			impl.SpreadOfMarks(list)
		})
		unchanged(t, "MeetMany", turns, 77, func(list []float32) { impl.MeetMany(marks, list) })
		var legs []impl.Leg
		for k, z := range marks {
			legs = append(legs, leg(turns[k], real(z)))
		}
		unchanged(t, "a function of legs", legs, leg(7, 8), func(list []impl.Leg) {
			impl.AreLegs(list)
			impl.WalkLegs(1, list)
		})
	}
	for _, rises := range append(oddRises(), rounds()...) {
		unchanged(t, "a function of rises", rises, rise(7, 8, 9, 10), func(list []impl.Rise) {
			impl.AreRises(list, 32)
			impl.RiseMiss(list)
			impl.ShareMiss(list)
			for count := range int64(12) {
				impl.RiseHeights(list, count)
				impl.RiseSquares(list, count)
			}
		})
	}
	for _, square := range [][]float32{{4, 2, -2, 2, 10, 5, -2, 5, 6}, {4, 2, -2, 2, 10, 5, -2, 5, -6}} {
		unchanged(t, "the square of SolveEven", square, 77, func(list []float32) { impl.SolveEven(list, []float32{2, 37, 26}) })
		unchanged(t, "the numbers of SolveEven", []float32{2, 37, 26}, 77, func(list []float32) { impl.SolveEven(square, list) })
	}
}

// Promise 1: returned lists are new, each time, with their unused capacity.
func TestReturnedSurveysAreNew(t *testing.T) {
	marks, other := tangle(20, 1), tangle(20, 2)
	legs := []impl.Leg{leg(0, 1), leg(0.3, 2), leg(0.6, 3)}
	points := map[string]func() ([]complex64, bool){
		"WalkLegs":           func() ([]complex64, bool) { return impl.WalkLegs(1, legs) },
		"CloseWalk":          func() ([]complex64, bool) { return impl.CloseWalk(marks, 3) },
		"CloseWalk, closed":  func() ([]complex64, bool) { return impl.CloseWalk(marks, marks[19]) },
		"CloseWalk to a leg": func() ([]complex64, bool) { return impl.CloseWalk([]complex64{0, 1}, 1) },
	}
	for name, call := range points {
		spoil(t, name, "", func(string) ([]complex64, bool) { return call() })
	}
	numbers := map[string]func() ([]float32, bool){
		"SolveEven": func() ([]float32, bool) { return impl.SolveEven([]float32{4, 2, 2, 10}, []float32{8, 22}) },
		"SkewFit":   func() ([]float32, bool) { return impl.SkewFit(marks, other) },
		"MissesOf":  func() ([]float32, bool) { return impl.MissesOf(frame(1i, 2), marks, other) },
		"RiseSquares": func() ([]float32, bool) {
			heights, _, ok := impl.RiseSquares(chainOf(5, 9, 9), 6)
			return heights, ok
		},
	}
	for name, call := range numbers {
		spoil(t, name, "", func(string) ([]float32, bool) { return call() })
	}
	round := roundOf(1, 0, 1, 2)
	integers := map[string]func() ([]int64, bool){
		"RiseHeights": func() ([]int64, bool) { return impl.RiseHeights(round, 3) },
		"DropWorst": func() ([]int64, bool) {
			left, _, ok := impl.DropWorst(marks, other, 4)
			return left, ok
		},
	}
	for name, call := range integers {
		spoil(t, name, "", func(string) ([]int64, bool) { return call() })
	}
	spoil(t, "LegsOf", "", func(string) ([]impl.Leg, bool) { return impl.LegsOf(marks) })
	spoil(t, "ShareMiss", "", func(string) ([]impl.Rise, bool) { return impl.ShareMiss(round) })
	even := backAndForth(2, 0, 1)
	spoil(t, "ShareMiss without a miss", "", func(string) ([]impl.Rise, bool) { return impl.ShareMiss(even) })
}
