package tests

import (
	"fmt"
	"math"
	"testing"

	"loop.example/g01341/impl"
)

// Promise 6: rounds whose misses are shared miss nothing.
func TestSharedRoundsMissNothing(t *testing.T) {
	for _, rises := range rounds() {
		miss, ok := impl.RiseMiss(rises)
		shared, also := impl.ShareMiss(rises)
		if !ok || !also || len(shared) != len(rises) {
			t.Fatalf("ShareMiss %v: got %v, %v", rises, shared, also)
		}
		saidTo(t, fmt.Sprintf("RiseMiss of the shared %v", rises), said(impl.RiseMiss(shared)), int64(0))
		saidTo(t, fmt.Sprintf("ShareMiss again %v", rises), said(impl.ShareMiss(shared)), shared)
		long, far, taken := int64(0), int64(0), int64(0)
		for _, r := range rises {
			long += r.Long
		}
		for i, r := range rises {
			far += r.Long
			taken += r.Small - shared[i].Small
			// What is taken away up to a rise is the share of the miss for the way so far, rounded down.
			if taken*long > miss*far || taken*long+long <= miss*far {
				t.Errorf("ShareMiss %v: %d is taken away up to rise %d of %d", rises, taken, i, miss)
			}
			if shared[i].From != r.From || shared[i].To != r.To || shared[i].Long != r.Long {
				t.Errorf("ShareMiss %v: rise %d became %v", rises, i, shared[i])
			}
		}
	}
}

// Heights along a round whose miss is shared are the same ones in both directions.
func TestSharedRoundsHaveHeights(t *testing.T) {
	for seed := range 200 {
		var marks []int64
		for i := range int64(2 + seed%31) {
			marks = append(marks, i)
		}
		shared, _ := impl.ShareMiss(roundOf(seed, marks...))
		ahead, ok := impl.RiseHeights(shared, int64(len(marks)))
		back, also := impl.RiseHeights(turned(shared), int64(len(marks)))
		if !ok || !also || tell(ahead) != tell(back) {
			t.Errorf("the heights %v, %v are %v, %v backwards", ahead, ok, back, also)
		}
		for _, r := range shared {
			if ahead[r.To]-ahead[r.From] != r.Small {
				t.Errorf("the heights %v do not fit %v", ahead, r)
			}
		}
	}
}

// ordinaryFrames turn, stretch and shift by ordinary numbers.
func ordinaryFrames() []impl.Frame {
	var list []impl.Frame
	for seed := range 12 {
		for _, long := range []float32{0.25, 1, 3} {
			turn := impl.ScaleComplex(impl.PhasorOf(float64(seed)/12+0.01), long)
			z := tangle(1, seed)[0]
			list = append(list, frame(turn, z-4-4i))
		}
	}
	return list
}

// ordinaryMarks are marks that are apart from one another, from two on.
func ordinaryMarks() [][]complex64 {
	lists := [][]complex64{{0, 1}, {-3 + 1i, 5 - 2i}, square(0, 4), {0, 1, 2, 3}, {2i, 2i, 5}}
	for seed := range 12 {
		lists = append(lists, tangle(3+seed, seed), wander(20+seed, seed))
	}
	return lists
}

// through returns where a frame leads marks.
func through(t *testing.T, f impl.Frame, marks []complex64) []complex64 {
	t.Helper()
	goals := make([]complex64, len(marks))
	for i, z := range marks {
		goal, ok := impl.FrameAt(f, z)
		if !ok {
			t.Fatalf("FrameAt %v fails for %v", f, z)
		}
		goals[i] = goal
	}
	return goals
}

// isNear reports whether two points are near one another.
func isNear(a, b complex64, by float64) bool { return float64(impl.LongOf(a-b)) <= by }

func areNear(f, g impl.Frame, by float64) bool {
	return isNear(f.Turn, g.Turn, by) && isNear(f.Shift, g.Shift, 10*by)
}

// Promise 6: frames are found again from their marks, nearly.
func TestFramesAreFoundAgain(t *testing.T) {
	for _, f := range ordinaryFrames() {
		for _, marks := range ordinaryMarks() {
			goals := through(t, f, marks)
			got, miss, ok := impl.FitFrame(marks, goals)
			if !ok || !areNear(got, f, 1e-5) || miss > 1e-4 {
				t.Errorf("FitFrame of %v found %v, %v, %v", f, got, miss, ok)
			}
			misses, ok := impl.MissesOf(f, marks, goals)
			if !ok || tell(misses) != tell(make([]float32, len(marks))) {
				t.Errorf("%v misses its own marks by %v, %v", f, misses, ok)
			}
			left, same, ok := impl.DropWorst(marks, goals, 1e-4)
			if !ok || len(left) != len(marks) || same != got {
				t.Errorf("DropWorst of %v left %v, %v, %v", f, left, same, ok)
			}
		}
	}
}

// Frames are found again, nearly, behind wrong marks, which are left out.
func TestFramesAreFoundAgainWithoutWrongMarks(t *testing.T) {
	for i, f := range ordinaryFrames() {
		marks := tangle(20, i)
		goals := through(t, f, marks)
		a, b := i%20, (i*7+3)%20
		goals[a] += complex64(complex(40, float64(i)))
		if a != b {
			goals[b] -= 25i
		}
		left, got, ok := impl.DropWorst(marks, goals, 1e-4)
		var want []int64
		for k := range int64(20) {
			if int(k) != a && int(k) != b {
				want = append(want, k)
			}
		}
		if !ok || tell(left) != tell(want) || !areNear(got, f, 1e-5) {
			t.Errorf("DropWorst of %v without %d and %d: got %v, %v, %v", f, a, b, left, got, ok)
		}
	}
}

// Marks that do not fit are led as near as a frame can: each other frame near it has a greater sum of squares.
func TestFittedFramesAreNearest(t *testing.T) {
	squares := func(f impl.Frame, from, to []complex64) float64 {
		sum := 0.0
		for i, z := range from {
			d := complex128(f.Turn)*complex128(z) + complex128(f.Shift) - complex128(to[i])
			sum += real(d)*real(d) + imag(d)*imag(d)
		}
		return sum
	}
	for seed := range 60 {
		from, to := tangle(3+seed%29, seed), tangle(3+seed%29, seed+200)
		f, most, ok := impl.FitFrame(from, to)
		misses, also := impl.MissesOf(f, from, to)
		if !ok || !also {
			t.Fatalf("FitFrame fails for %v and %v", from, to)
		}
		greatest := float32(0)
		for _, miss := range misses {
			greatest = max(greatest, miss)
		}
		expect(t, "the greatest miss", most, greatest)
		least := squares(f, from, to)
		for _, by := range []complex64{0.01, -0.01, 0.01i, -0.01i} {
			if squares(frame(f.Turn+by, f.Shift), from, to) < least || squares(frame(f.Turn, f.Shift+by), from, to) < least {
				t.Errorf("FitFrame %v, %v: %v is not nearest", from, to, f)
			}
		}
	}
}

// Frames that are joined lead like both, one after another, and frames lead back, nearly.
func TestFramesLeadBack(t *testing.T) {
	for i, f := range ordinaryFrames() {
		back, ok := impl.FrameBack(f)
		again, also := impl.FrameBack(back)
		one, two := impl.JoinFrames(back, f)
		if !ok || !also || !two || !areNear(again, f, 1e-5) || !areNear(one, frame(1, 0), 1e-5) {
			t.Errorf("FrameBack %v: got %v, %v, and %v, %v", f, back, ok, again, also)
		}
		other := ordinaryFrames()[(i*5+1)%36]
		both, ok := impl.JoinFrames(f, other)
		for _, z := range tangle(20, i) {
			there, _ := impl.FrameAt(f, z)
			here, too := impl.FrameAt(back, there)
			if !too || !isNear(here, z, 1e-4) {
				t.Errorf("%v leads back from %v to %v, %v", back, there, here, too)
			}
			middle, _ := impl.FrameAt(other, z)
			end, _ := impl.FrameAt(f, middle)
			got, also := impl.FrameAt(both, z)
			if !ok || !also || !isNear(got, end, 1e-4) {
				t.Errorf("JoinFrames %v, %v leads to %v, not to %v", f, other, got, end)
			}
		}
	}
}

// Skews are found again from their marks, nearly.
func TestSkewsAreFoundAgain(t *testing.T) {
	for seed := range 60 {
		n := tangle(3, seed)
		want := []float32{real(n[0]) - 4, imag(n[0]) - 4, real(n[1]) - 4, imag(n[1]) - 4, real(n[2]) - 4, imag(n[2]) - 4}
		from := tangle(4+seed%29, seed+300)
		to := make([]complex64, len(from))
		for i, z := range from {
			x, y := real(z), imag(z)
			to[i] = complex(want[0]*x+want[1]*y+want[2], want[3]*x+want[4]*y+want[5])
		}
		got, ok := impl.SkewFit(from, to)
		if !ok || len(got) != 6 {
			t.Fatalf("SkewFit %v, %v: got %v, %v", from, to, got, ok)
		}
		for i, x := range got {
			if math.Abs(float64(x-want[i])) > 2e-3 {
				t.Errorf("SkewFit: got %v, want %v", got, want)
			}
		}
	}
}

// Walks are told again by their legs, nearly, and closed ones end where they are told.
func TestWalksAreToldAgain(t *testing.T) {
	for seed := range 60 {
		marks := tangle(2+seed%31, seed)
		legs, ok := impl.LegsOf(marks)
		walk, also := impl.WalkLegs(marks[0], legs)
		if !ok || !also || len(walk) != len(marks) {
			t.Fatalf("LegsOf %v: got %v, %v, %v, %v", marks, legs, ok, walk, also)
		}
		end := tangle(1, seed+50)[0]
		closed, ok := impl.CloseWalk(marks, end)
		if !ok || !isNear(closed[len(closed)-1], end, 1e-5) || closed[0] != marks[0] {
			t.Errorf("CloseWalk %v in %v: got %v, %v", marks, end, closed, ok)
		}
		for i, z := range walk {
			if !isNear(z, marks[i], 1e-4) {
				t.Errorf("the walk %v became %v", marks, walk)
			}
		}
	}
}

// Marks that lines and circles tell are found again, nearly.
func TestMeetsAreFoundAgain(t *testing.T) {
	for seed := range 200 {
		z := tangle(3, seed)
		legs, _ := impl.LegsOf([]complex64{z[0], z[2], z[1]})
		got, ok := impl.MeetTurns(z[0], legs[0].Turn, z[1], legs[1].Turn)
		turn, _ := impl.AreaOfLoop(z)
		// Lines that are nearly parallel meet anywhere.
		flat := math.Abs(float64(turn)) < 0.5
		if !flat && (!ok || !isNear(got, z[2], 1e-3)) {
			t.Errorf("MeetTurns to %v: got %v, %v", z[2], got, ok)
		}
		got, ok = impl.MeetLongs(z[0], legs[0].Long, z[1], legs[1].Long, turn > 0)
		if !flat && (!ok || !isNear(got, z[2], 1e-3)) {
			t.Errorf("MeetLongs to %v: got %v, %v", z[2], got, ok)
		}
		many, miss, ok := impl.MeetMany(z[:2], []float32{legs[0].Turn, legs[1].Turn})
		if !flat && (!ok || !isNear(many, z[2], 1e-3) || miss > 1e-3) {
			t.Errorf("MeetMany to %v: got %v, %v, %v", z[2], many, miss, ok)
		}
	}
}
