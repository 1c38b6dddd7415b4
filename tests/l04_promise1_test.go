package tests

import (
	"fmt"
	"testing"

	"loop.example/g01341/impl"
)

// oddLines are lines and lists that are none, with ordinary and with odd points.
func oddLines() [][]complex64 {
	lines := append(wrongLines(), []complex64{0, 1}, []complex64{1, 1}, square(0, 4), zigzag(128), tangle(128, 3))
	for seed := range 30 {
		n := seed%9 + 1
		lines = append(lines, oddLine(n, seed), wideLine(n, seed), lattice(n, seed), tangle(n, seed))
	}
	return lines
}

// Promise 1: each function returns for all arguments, and equal results for equal arguments.
func TestLinesReturnForAllArguments(t *testing.T) {
	numbers, integers := oddNumbers(), oddIntegers()
	for name := range ofPieces {
		alike(t, oddLines(), func(line []complex64) string {
			all := ""
			for i := range 12 {
				n, _ := numbersOf(line)
				front := []float32{numbers[(i*7)%len(numbers)], numbers[(i*11+5)%len(numbers)], numbers[(i*13+2)%len(numbers)], numbers[(i*17+3)%len(numbers)]}
				if i%3 == 0 {
					front = []float32{-1, -1, 3, 3}
				}
				if name == "PiecesCross" || name == "FarOfPiece" {
					n = append(n, n...)
					n = append(n, front...)
					n = append(n, front...)
				}
				k := int64(i)
				if i > 5 {
					k = integers[(i*3)%len(integers)]
				}
				all += callLines(name, append(front[:frontOf(name)], n...), []int64{k})
			}
			return all
		})
	}
}

// frontOf returns how many numbers stand in front of the points of a function.
func frontOf(name string) int {
	switch name {
	case "ThinByHeights", "ThinByAreas", "ThinSafely":
		return 1
	case "FarOfLine", "IsInLoop", "LabelCorners":
		return 2
	case "ClipLine":
		return 4
	}
	return 0
}

func TestManyLinesReturnForAllArguments(t *testing.T) {
	lines, numbers, integers := oddLines(), oddNumbers(), oddIntegers()
	var starts []int
	for i := range lines {
		starts = append(starts, i)
	}
	alike(t, starts, func(start int) string {
		all := ""
		for _, n := range []int{0, 1, 2, 3, 5} {
			group := lines[start:min(start+n, len(lines))]
			all += fmt.Sprint(impl.AreLines(group)) + said(impl.JoinLines(group)) + said(impl.HoldersOf(group)) + said(impl.AreaOfShape(group)) + said(impl.NeighboursOf(group))
			all += said(impl.ThinShared(group, numbers[start%len(numbers)], int64(n))) + said(impl.ThinShared(group, 1, integers[start%len(integers)]))
		}
		return all + said(impl.JoinLines(lines))
	})
}

func TestColoursReturnForAllArguments(t *testing.T) {
	integers := oddIntegers()
	alike(t, integers, func(n int64) string {
		all := said(impl.ColoursOf(n, integers)) + said(impl.FewColours(n, integers, 3)) + said(impl.FewColours(5, nil, n))
		for _, k := range integers {
			all += said(impl.ColoursOf(n, []int64{k, 0})) + said(impl.ColoursOf(9, []int64{n, k})) + said(impl.FewColours(9, []int64{k, n}, 3)) + said(impl.FewColours(n, []int64{0, k}, k))
		}
		return all + said(impl.ColoursOf(n, make([]int64, 2000))) + said(impl.ColoursOf(n, make([]int64, 100000)))
	})
}

// Promise 1: no function modifies its list, or what lies behind it.
func TestLinesAreNotModified(t *testing.T) {
	guard := complex64(77 + 78i)
	for i, line := range append(oddLines(), ordinaryLines()...) {
		unchanged(t, "a function of a line", line, guard, func(list []complex64) {
			impl.IsLine(list)
			impl.CrossingsOf(list, i%2 == 0)
			impl.LongOfLine(list)
			impl.FarOfLine(list, 1)
			impl.BoxOfLine(list)
			impl.ThinByHeights(list, 0.5)
			impl.ThinByAreas(list, 5)
			impl.ThinSafely(list, 5)
			impl.SmoothLine(list, 3)
			impl.AreaOfLoop(list)
			impl.MiddleOfLoop(list)
			impl.IsInLoop(list, 1+1i)
			impl.ClipLine(list, -1-1i, 2+2i)
			impl.LabelSpot(list, 3)
			impl.LabelCorners(list, 1, 1)
		})
	}
	for n := range 20 {
		unchanged(t, "a function of pairs", repeated(complete(9), n), 7, func(list []int64) {
			impl.ColoursOf(9, list)
			impl.FewColours(9, list, 4)
			impl.ColoursOf(3, list)
			impl.FewColours(3, list, 4)
		})
	}
}

// Promise 1: no function modifies its lines, or what lies behind them and behind their list.
func TestManyLinesAreNotModified(t *testing.T) {
	for _, lines := range [][][]complex64{nil, ordinaryLines()[:16], ordinaryLines()[20:36], oddLines(), {{0, 1}, {2, 1}, {3, 0}, {2, 5}}, {square(0, 4), square(1+1i, 2), square(4, 4)}} {
		guard := []complex64{77, 78}
		whole := [][]complex64{guard}
		for _, line := range lines {
			inner := append(append([]complex64{7}, line...), 8, 9)
			whole = append(whole, inner[1:1+len(line)])
		}
		whole = append(whole, guard, guard)
		before := tell(withCapacity(whole))
		list := whole[1 : 1+len(lines)]
		impl.AreLines(list)
		impl.ThinShared(list, 5, 3)
		impl.HoldersOf(list)
		impl.AreaOfShape(list)
		impl.JoinLines(list)
		impl.NeighboursOf(list)
		if tell(withCapacity(whole)) != before {
			t.Errorf("lines are modified: %s", tell(lines))
		}
	}
}

// withCapacity returns lines with what lies behind each of them.
func withCapacity(lines [][]complex64) [][]complex64 {
	var whole [][]complex64
	for _, line := range lines {
		whole = append(whole, line[:cap(line)])
	}
	return whole
}

// Promise 1: returned lists are new, each time, with their unused capacity.
func TestReturnedLinesAreNew(t *testing.T) {
	line := tangle(20, 1)
	lists := map[string]func() ([]complex64, bool){
		"ThinByHeights":             func() ([]complex64, bool) { return impl.ThinByHeights(line, 0.5) },
		"ThinByHeights of two":      func() ([]complex64, bool) { return impl.ThinByHeights(line[:2], 0.5) },
		"ThinByAreas":               func() ([]complex64, bool) { return impl.ThinByAreas(line, 1) },
		"ThinByAreas with nothing":  func() ([]complex64, bool) { return impl.ThinByAreas(line, 0) },
		"ThinSafely":                func() ([]complex64, bool) { return impl.ThinSafely(line, 1) },
		"ThinSafely with nothing":   func() ([]complex64, bool) { return impl.ThinSafely(line, 0) },
		"SmoothLine":                func() ([]complex64, bool) { return impl.SmoothLine(line, 3) },
		"SmoothLine never":          func() ([]complex64, bool) { return impl.SmoothLine(line, 0) },
		"SmoothLine of two, always": func() ([]complex64, bool) { return impl.SmoothLine(line[:2], 64) },
	}
	for name, call := range lists {
		spoil(t, name, "", func(string) ([]complex64, bool) { return call() })
	}
	integers := map[string]func() ([]int64, bool){
		"HoldersOf":    func() ([]int64, bool) { return impl.HoldersOf([][]complex64{square(0, 4), square(1+1i, 2)}) },
		"NeighboursOf": func() ([]int64, bool) { return impl.NeighboursOf([][]complex64{square(0, 4), square(4, 4)}) },
		"LabelCorners": func() ([]int64, bool) { return impl.LabelCorners(line, 1, 1) },
		"ColoursOf":    func() ([]int64, bool) { return impl.ColoursOf(5, complete(5)) },
		"FewColours":   func() ([]int64, bool) { return impl.FewColours(4, complete(4), 4) },
	}
	for name, call := range integers {
		spoil(t, name, "", func(string) ([]int64, bool) { return call() })
	}
}

// Promise 1: no two lines of one result share memory, and none shares it with an argument or with another result.
func TestReturnedLinesAreApart(t *testing.T) {
	lines := append([][]complex64{{100, 200}, {200, 300}, {7, 8}, {9, 9}}, ordinaryLines()[10:18]...)
	calls := map[string]func() ([][]complex64, bool){
		"ThinShared":              func() ([][]complex64, bool) { return impl.ThinShared(lines, 1, 3) },
		"ThinShared with nothing": func() ([][]complex64, bool) { return impl.ThinShared(lines, 0, 3) },
		"JoinLines":               func() ([][]complex64, bool) { return impl.JoinLines(lines) },
		"JoinLines apart":         func() ([][]complex64, bool) { return impl.JoinLines(lines[1:4]) },
		"ClipLine":                func() ([][]complex64, bool) { return impl.ClipLine(teeth(9), 0, 100+1i) },
		"ClipLine of all":         func() ([][]complex64, bool) { return impl.ClipLine(lines[0], -1-1i, 300+1i) },
	}
	before := tell(lines)
	for name, call := range calls {
		want, ok := call()
		told := tell(want)
		got, _ := call()
		if !ok || len(got) == 0 {
			t.Fatalf("%s: got %v, %v", name, got, ok)
		}
		for i, line := range got {
			for k := range line[:cap(line)] {
				line[:cap(line)][k] = 55
			}
			if tell(got[i+1:]) != tell(want[i+1:]) {
				t.Errorf("%s: line %d shares memory with a later one", name, i)
			}
		}
		for i := len(want) - 1; i >= 0; i-- {
			again, _ := call()
			clear(again[i][:cap(again[i])])
			if tell(again[:i]) != tell(want[:i]) {
				t.Errorf("%s: line %d shares memory with an earlier one", name, i)
			}
		}
		clear(got[:cap(got)])
		if tell(want) != told || tell(lines) != before {
			t.Errorf("%s shares memory with its argument or another result", name)
		}
	}
}
