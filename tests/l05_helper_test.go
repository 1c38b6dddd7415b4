package tests

import (
	"slices"
	"testing"

	"loop.example/g01341/impl"
)

// surveyCall is how a function of chapter 5 is called: n are the numbers of its arguments, single ones and points in front of those of lists, and k the integers, those of rises last; behind two lists, the first integer tells how many points, or numbers, the first one has.
type surveyCall = func(n []float32, k []int64) string

// ofMarks is the call of a function of marks.
func ofMarks[T any](f func([]complex64) (T, bool)) surveyCall {
	return func(n []float32, k []int64) string { return said(f(pointsOf(n))) }
}

// ofRound is the call of a function of rises.
func ofRound[T any](f func([]impl.Rise) (T, bool)) surveyCall {
	return func(n []float32, k []int64) string { return said(f(risesOf(k))) }
}

// ofPlot has the functions of chapter 5 that take marks, legs, or a few points.
var ofPlot = map[string]surveyCall{
	"AreMarks": func(n []float32, k []int64) string { return words(true, impl.AreMarks(pointsOf(n))) },
	"AreLegs":  func(n []float32, k []int64) string { return words(true, impl.AreLegs(legsOf(n))) },
	"WalkLegs": func(n []float32, k []int64) string {
		return said(impl.WalkLegs(complex(n[0], n[1]), legsOf(n[2:])))
	},
	"LegsOf": ofMarks(impl.LegsOf),
	"CloseWalk": func(n []float32, k []int64) string {
		return said(impl.CloseWalk(pointsOf(n[2:]), complex(n[0], n[1])))
	},
	"MeetTurns": func(n []float32, k []int64) string {
		return said(impl.MeetTurns(complex(n[0], n[1]), n[2], complex(n[3], n[4]), n[5]))
	},
	"MeetLongs": func(n []float32, k []int64) string {
		return said(impl.MeetLongs(complex(n[0], n[1]), n[2], complex(n[3], n[4]), n[5], k[0] == 1))
	},
	"MeetMany": func(n []float32, k []int64) string {
		return saidTwo(impl.MeetMany(pointsOf(n[:2*k[0]]), n[2*k[0]:]))
	},
	"PlotArea": ofMarks(impl.PlotArea),
	"CutPlot":  func(n []float32, k []int64) string { return said(impl.CutPlot(pointsOf(n[1:]), n[0])) },
	"SpreadOfMarks": func(n []float32, k []int64) string {
		return saidThree(impl.SpreadOfMarks(pointsOf(n)))
	},
}

// ofHeights has the functions of chapter 5 that take rises, or a square.
var ofHeights = map[string]surveyCall{
	"AreRises":    func(n []float32, k []int64) string { return words(true, impl.AreRises(risesOf(k[1:]), k[0])) },
	"RiseMiss":    ofRound(impl.RiseMiss),
	"ShareMiss":   ofRound(impl.ShareMiss),
	"RiseHeights": func(n []float32, k []int64) string { return said(impl.RiseHeights(risesOf(k[1:]), k[0])) },
	"RiseSquares": func(n []float32, k []int64) string { return saidTwo(impl.RiseSquares(risesOf(k[1:]), k[0])) },
	"SolveEven":   func(n []float32, k []int64) string { return said(impl.SolveEven(n[:k[0]], n[k[0]:])) },
}

// ofFrames has the functions of chapter 5 that take frames, or marks and others.
var ofFrames = map[string]surveyCall{
	"ValidFrame": func(n []float32, k []int64) string { return words(true, impl.ValidFrame(frameOf(n))) },
	"FrameAt":    func(n []float32, k []int64) string { return said(impl.FrameAt(frameOf(n), complex(n[4], n[5]))) },
	"FrameBack":  func(n []float32, k []int64) string { return said(impl.FrameBack(frameOf(n))) },
	"JoinFrames": func(n []float32, k []int64) string { return said(impl.JoinFrames(frameOf(n), frameOf(n[4:]))) },
	"FitFrame":   func(n []float32, k []int64) string { return saidTwo(impl.FitFrame(bothOf(n, k))) },
	"MissesOf": func(n []float32, k []int64) string {
		from, to := bothOf(n[4:], k)
		return said(impl.MissesOf(frameOf(n), from, to))
	},
	"DropWorst": func(n []float32, k []int64) string {
		from, to := bothOf(n[1:], k)
		return saidTwo(impl.DropWorst(from, to, n[0]))
	},
	"SkewFit": func(n []float32, k []int64) string { return said(impl.SkewFit(bothOf(n, k))) },
}

// callSurveys calls a function of chapter 5, and tells what it returns.
func callSurveys(name string, n []float32, k []int64) string {
	for _, calls := range []map[string]surveyCall{ofPlot, ofHeights, ofFrames} {
		if call, ok := calls[name]; ok {
			return call(n, k)
		}
	}
	return "no function " + name
}

// saidThree is what a function with three results and its success returns.
func saidThree[T, U, V any](x T, y U, z V, ok bool) string { return words(ok, x, y, z) }

func legsOf(n []float32) []impl.Leg {
	var legs []impl.Leg
	for i := 0; i+1 < len(n); i += 2 {
		legs = append(legs, impl.Leg{Turn: n[i], Long: n[i+1]})
	}
	return legs
}

func risesOf(k []int64) []impl.Rise {
	var rises []impl.Rise
	for i := 0; i+3 < len(k); i += 4 {
		rises = append(rises, impl.Rise{From: k[i], To: k[i+1], Small: k[i+2], Long: k[i+3]})
	}
	return rises
}

// frameOf returns the frame that the first four numbers tell.
func frameOf(n []float32) impl.Frame {
	return impl.Frame{Turn: complex(n[0], n[1]), Shift: complex(n[2], n[3])}
}

// bothOf returns the points that numbers have as two lists, the first one with as many points as the first integer tells.
func bothOf(n []float32, k []int64) ([]complex64, []complex64) {
	return pointsOf(n[:2*k[0]]), pointsOf(n[2*k[0]:])
}

// surveyWordsOf writes the numbers of legs, rises and frames one by one.
func surveyWordsOf(x any) []string {
	switch v := x.(type) {
	case impl.Leg:
		return []string{tell(v.Turn), tell(v.Long)}
	case impl.Rise:
		return []string{words(true, v.From, v.To, v.Small, v.Long)}
	case impl.Frame:
		return []string{tell(v.Turn), tell(v.Shift)}
	case []impl.Leg:
		return []string{"[" + words(true, anyOf(v)...) + "]"}
	case []impl.Rise:
		return []string{"[" + words(true, anyOf(v)...) + "]"}
	}
	return heightWordsOf(x)
}

func leg(turn, long float32) impl.Leg { return impl.Leg{Turn: turn, Long: long} }

func rise(from, to, small, long int64) impl.Rise {
	return impl.Rise{From: from, To: to, Small: small, Long: long}
}

func frame(turn, shift complex64) impl.Frame { return impl.Frame{Turn: turn, Shift: shift} }

// wrongNumbers are not finite.
func wrongNumbers() []float32 { return []float32{infinite(), -infinite(), num(0x7fc00000)} }

// wrongMarks are no marks: there are too few or too many of them, or one has a part that is not finite.
func wrongMarks() [][]complex64 {
	lists := [][]complex64{nil, {}, zigzag(33), make([]complex64, 33), zigzag(1000)}
	for _, z := range wrongPoints() {
		lists = append(lists, []complex64{z, 0, 1, 1i}, []complex64{0, z, 1, 1i}, []complex64{0, 1, 1i, z}, []complex64{z, z, z})
	}
	return lists
}

// wrongFrames are not valid: their Turn is 0, or a part is not finite.
func wrongFrames() []impl.Frame {
	zero := complex(minusZero(), minusZero())
	list := []impl.Frame{{}, frame(0, 1), frame(zero, 1), frame(complex(0, minusZero()), 1i)}
	for _, z := range wrongPoints() {
		list = append(list, frame(z, 1), frame(1, z), frame(z, z), frame(0, z))
	}
	return list
}

// oddFrames are valid and other ones.
func oddFrames() []impl.Frame {
	list := append(wrongFrames(), frame(1, 0), frame(2i, 1), frame(-0.5+3i, 100-7i))
	for seed := range 60 {
		z := oddLine(2, seed)
		w := wideLine(2, seed)
		list = append(list, frame(z[0], z[1]), frame(w[0], w[1]))
	}
	return list
}

// wrongRises are no rises between the marks 0, 1 and 2, each by the least that is possible or by much.
func wrongRises() []impl.Rise {
	list := []impl.Rise{rise(-1, 1, 5, 1), rise(1, -1, 5, 1), rise(3, 1, 5, 1), rise(1, 3, 5, 1), rise(1, 1, 5, 1), rise(0, 0, 0, 1), rise(-1, -2, 5, 1), rise(3, 4, 5, 1)}
	list = append(list, rise(0, 1, impl.MaxSmall+1, 1), rise(0, 1, -impl.MaxSmall-1, 1), rise(0, 1, 5, 0), rise(0, 1, 5, -1), rise(0, 1, 5, impl.MaxSmall+1), impl.Rise{})
	for _, n := range []int64{1 << 32, 1<<32 + 1, 1<<63 - 1, -1 << 63, -1 << 32} {
		list = append(list, rise(n, 1, 5, 1), rise(1, n, 5, 1), rise(0, 1, n, 1), rise(0, 1, 5, n), rise(n, n, n, n))
	}
	return list
}

// chainOf returns n rises along the marks from 0 on, around and around less than 32 of them, so that each begins where the one before ends.
func chainOf(n int, small, long int64) []impl.Rise {
	var rises []impl.Rise
	for i := range int64(n) {
		rises = append(rises, rise(i%31, (i+1)%31, small, long))
	}
	return rises
}

// roundOf returns a round along these marks, with Smalls and Longs that depend on the seed.
func roundOf(seed int, marks ...int64) []impl.Rise {
	var rises []impl.Rise
	numbers := tangle(2*len(marks), seed)
	for i, from := range marks {
		z := numbers[i]
		small, long := int64(real(z)*1000)-4000, int64(imag(z)*float32(seed%9+1))+1
		rises = append(rises, rise(from, marks[(i+1)%len(marks)], small, long))
	}
	return rises
}

// rounds are some with few and with many rises, some of which come through a mark more than once.
func rounds() [][]impl.Rise {
	var list [][]impl.Rise
	for seed := range 100 {
		list = append(list, roundOf(seed, 0, 1), roundOf(seed, 31, 0, 7), roundOf(seed, 3, 1, 2, 1, 5), roundOf(seed, 0, 1, 0, 1, 0, 1))
		var marks []int64
		for i := range int64(2 + seed%31) {
			marks = append(marks, i)
		}
		list = append(list, roundOf(seed, marks...))
	}
	return list
}

// without returns a list without the item with this index.
func without[T any](list []T, i int) []T { return slices.Delete(slices.Clone(list), i, i+1) }

// saidTo checks what a function that must succeed returns.
func saidTo(t *testing.T, what, got string, want ...any) {
	t.Helper()
	if got != words(true, want...) {
		t.Errorf("%s: got %s, want %s", what, got, words(true, want...))
	}
}

// failing checks that a function fails.
func failing(t *testing.T, what, got string) {
	t.Helper()
	if got != "fails" {
		t.Errorf("%s: got %s, but must fail", what, got)
	}
}
