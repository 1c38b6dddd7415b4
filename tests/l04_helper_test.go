package tests

import (
	"math"

	"loop.example/g01341/impl"
)

// lineCall is how a function of chapter 4 is called: n are the numbers of its arguments, single ones in front of the points, and k the integers, single ones in front of how many points each line has.
type lineCall = func(n []float32, k []int64) string

// ofLine is the call of a function of a line.
func ofLine[T any](f func([]complex64) (T, bool)) lineCall {
	return func(n []float32, k []int64) string { return said(f(pointsOf(n))) }
}

// ofLineAnd is the call of a function of a line and a number, which comes first.
func ofLineAnd[T any](f func([]complex64, float32) (T, bool)) lineCall {
	return func(n []float32, k []int64) string { return said(f(pointsOf(n[1:]), n[0])) }
}

// ofLineAt is the call of a function of a line and a point, which comes first.
func ofLineAt[T any](f func([]complex64, complex64) (T, bool)) lineCall {
	return func(n []float32, k []int64) string { return said(f(pointsOf(n[2:]), complex(n[0], n[1]))) }
}

// ofLines is the call of a function of lines.
func ofLines[T any](f func([][]complex64) (T, bool)) lineCall {
	return func(n []float32, k []int64) string { return said(f(linesOf(n, k))) }
}

// ofPieces has the functions of chapter 4 that take a line, or a few points.
var ofPieces = map[string]lineCall{
	"IsLine": func(n []float32, k []int64) string { return words(true, impl.IsLine(pointsOf(n))) },
	"PiecesCross": func(n []float32, k []int64) string {
		p := pointsOf(n)
		return words(true, impl.PiecesCross(p[0], p[1], p[2], p[3]))
	},
	"CrossingsOf": func(n []float32, k []int64) string { return said(impl.CrossingsOf(pointsOf(n), k[0] == 1)) },
	"LongOfLine":  ofLine(impl.LongOfLine),
	"FarOfPiece": func(n []float32, k []int64) string {
		p := pointsOf(n)
		return said(impl.FarOfPiece(p[0], p[1], p[2]))
	},
	"FarOfLine":     ofLineAt(impl.FarOfLine),
	"BoxOfLine":     func(n []float32, k []int64) string { return saidTwo(impl.BoxOfLine(pointsOf(n))) },
	"ThinByHeights": ofLineAnd(impl.ThinByHeights),
	"ThinByAreas":   ofLineAnd(impl.ThinByAreas),
	"ThinSafely":    ofLineAnd(impl.ThinSafely),
	"SmoothLine":    func(n []float32, k []int64) string { return said(impl.SmoothLine(pointsOf(n), k[0])) },
	"AreaOfLoop":    ofLine(impl.AreaOfLoop),
	"MiddleOfLoop":  ofLine(impl.MiddleOfLoop),
	"IsInLoop":      ofLineAt(impl.IsInLoop),
	"ClipLine": func(n []float32, k []int64) string {
		return said(impl.ClipLine(pointsOf(n[4:]), complex(n[0], n[1]), complex(n[2], n[3])))
	},
	"LabelSpot": func(n []float32, k []int64) string { return saidTwo(impl.LabelSpot(pointsOf(n), k[0])) },
	"LabelCorners": func(n []float32, k []int64) string {
		return said(impl.LabelCorners(pointsOf(n[2:]), n[0], n[1]))
	},
}

// ofShapes has the functions of chapter 4 that take lines, or pairs.
var ofShapes = map[string]lineCall{
	"AreLines": func(n []float32, k []int64) string { return words(true, impl.AreLines(linesOf(n, k))) },
	"ThinShared": func(n []float32, k []int64) string {
		return said(impl.ThinShared(linesOf(n[1:], k[1:]), n[0], k[0]))
	},
	"HoldersOf":    ofLines(impl.HoldersOf),
	"AreaOfShape":  ofLines(impl.AreaOfShape),
	"JoinLines":    ofLines(impl.JoinLines),
	"NeighboursOf": ofLines(impl.NeighboursOf),
	"ColoursOf":    func(n []float32, k []int64) string { return said(impl.ColoursOf(k[0], k[1:])) },
	"FewColours":   func(n []float32, k []int64) string { return said(impl.FewColours(k[0], k[2:], k[1])) },
}

// callLines calls a function of chapter 4, and tells what it returns.
func callLines(name string, n []float32, k []int64) string {
	if call, ok := ofPieces[name]; ok {
		return call(n, k)
	}
	return ofShapes[name](n, k)
}

func pointsOf(n []float32) []complex64 {
	var list []complex64
	for i := 0; i+1 < len(n); i += 2 {
		list = append(list, complex(n[i], n[i+1]))
	}
	return list
}

// linesOf returns the points that numbers have as lines of these lengths.
func linesOf(n []float32, lengths []int64) [][]complex64 {
	var lines [][]complex64
	for _, length := range lengths {
		lines = append(lines, pointsOf(n[:2*length]))
		n = n[2*length:]
	}
	return lines
}

// numbersOf returns the parts of all points of lines, one after another, and how many points each line has.
func numbersOf(lines ...[]complex64) ([]float32, []int64) {
	var n []float32
	var lengths []int64
	for _, line := range lines {
		for _, z := range line {
			n = append(n, real(z), imag(z))
		}
		lengths = append(lengths, int64(len(line)))
	}
	return n, lengths
}

func largest() float32 { return math.MaxFloat32 }

func infinite() float32 { return float32(math.Inf(1)) }

// wrongPoints have parts that are not finite.
func wrongPoints() []complex64 {
	var list []complex64
	for _, x := range []float32{infinite(), -infinite(), num(0x7fc00000)} {
		list = append(list, complex(x, 1), complex(1, x), complex(x, x))
	}
	return list
}

// wrongLines are no lines: they are too short or too long, or have a point that is not finite.
func wrongLines() [][]complex64 {
	lines := [][]complex64{nil, {}, {0}, {1 + 1i}, zigzag(129), make([]complex64, 129), zigzag(1000)}
	for _, z := range wrongPoints() {
		lines = append(lines, []complex64{z, 0, 1}, []complex64{0, z, 1i}, []complex64{0, 1, 1i, z}, []complex64{z, z, z})
	}
	return lines
}

// wrongLoops are no loops; one of them is a line of two points.
func wrongLoops() [][]complex64 { return append(wrongLines(), []complex64{0, 1}) }

// zigzag returns a line of n points that goes up and down from left to right.
func zigzag(n int) []complex64 {
	line := make([]complex64, n)
	for i := range line {
		line[i] = complex(float32(i), float32(i*i%7)/4)
	}
	return line
}

// tangle returns a line of n points, the same one for the same n and seed, that crosses itself again and again.
func tangle(n, seed int) []complex64 {
	line := make([]complex64, n)
	state := uint32(seed)*2654435761 + 1
	next := func() float32 {
		state = state*1664525 + 1013904223
		return float32(state>>16) / 8192
	}
	for i := range line {
		line[i] = complex(next(), next())
	}
	return line
}

// lattice is a tangle of points with whole parts from 0 to 3, so that many of them are equal and many pieces touch.
func lattice(n, seed int) []complex64 {
	line := tangle(n, seed)
	for i, z := range line {
		line[i] = complex(float32(int(real(z))%4), float32(int(imag(z))%4))
	}
	return line
}

// wander returns a line of n points, the same one for the same n and seed, that goes to the right and seldom crosses itself.
func wander(n, seed int) []complex64 {
	line := tangle(n, seed)
	for i, z := range line {
		line[i] = complex(real(z)/8+float32(i)/2, imag(z)/4)
	}
	return line
}

// oddLine returns n points with odd parts, finite and other ones.
func oddLine(n, seed int) []complex64 {
	numbers := oddNumbers()
	line := make([]complex64, n)
	for i := range line {
		line[i] = complex(numbers[(seed*7+i*11)%len(numbers)], numbers[(seed*13+i*5+3)%len(numbers)])
	}
	return line
}

// wideLine returns n finite points with parts so large, so small or with such signs that numbers overflow and vanish.
func wideLine(n, seed int) []complex64 {
	parts := []float32{0, minusZero(), num(1), -num(1), num(0x7fffff), num(0x800000), 1e-20, -1e-20, 1, -1, 1e10, -3e19, 1.5e19, 1e30, largest(), -largest()}
	line := make([]complex64, n)
	for i := range line {
		line[i] = complex(parts[(seed*7+i*3)%len(parts)], parts[(seed*5+i*i+1)%len(parts)])
	}
	return line
}

// square returns the loop of a square with this lower left corner and side, which turns to the left.
func square(corner complex64, side float32) []complex64 {
	s := complex(side, 0)
	return []complex64{corner, corner + s, corner + s + s*1i, corner + s*1i}
}

// turned returns a list with its items in the opposite order.
func turned[T any](list []T) []T {
	back := make([]T, len(list))
	for i, x := range list {
		back[len(list)-1-i] = x
	}
	return back
}
