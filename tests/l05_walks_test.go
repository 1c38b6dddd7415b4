package tests

import (
	"fmt"
	"testing"

	"loop.example/g01341/impl"
)

func TestMarks(t *testing.T) {
	for n := range 40 {
		if got, want := impl.AreMarks(zigzag(n)), n >= 1 && n <= 32; got != want {
			t.Errorf("%d marks: got %v", n, got)
		}
	}
	far := complex(largest(), -largest())
	for _, list := range [][]complex64{{0}, {complex(minusZero(), num(1))}, {far, -far}, {1, 1, 1}} {
		expect(t, "AreMarks "+tell(list), impl.AreMarks(list), true)
	}
	for _, list := range wrongMarks() {
		expect(t, fmt.Sprintf("AreMarks of %d wrong ones", len(list)), impl.AreMarks(list), false)
	}
}

// legsWith returns n legs, one of which is told.
func legsWith(n, i int, one impl.Leg) []impl.Leg {
	legs := make([]impl.Leg, n)
	for k := range legs {
		legs[k] = leg(float32(k)/16, 2)
	}
	legs[i] = one
	return legs
}

// wrongLegs are no legs, each of them alone.
func wrongLegs() []impl.Leg {
	list := []impl.Leg{{}, leg(0.25, 0), leg(0.25, minusZero()), leg(0, -num(1)), leg(0, -1), leg(0, -largest())}
	for _, x := range wrongNumbers() {
		list = append(list, leg(x, 1), leg(0.25, x), leg(x, x))
	}
	return list
}

func TestLegs(t *testing.T) {
	for n := range 40 {
		legs := make([]impl.Leg, n)
		for i := range legs {
			legs[i] = leg(0, 1)
		}
		_, ok := impl.WalkLegs(0, legs)
		if got, want := impl.AreLegs(legs), n >= 1 && n <= 32; got != want || ok != want {
			t.Errorf("%d legs: got %v and %v", n, got, ok)
		}
	}
	for _, x := range []float32{0, minusZero(), num(1), -0.25, 1000, -largest()} {
		expect(t, "AreLegs with a turn", impl.AreLegs([]impl.Leg{leg(x, 1)}), true)
		expect(t, "AreLegs with a long", impl.AreLegs([]impl.Leg{leg(x, num(1)), leg(x, largest())}), true)
	}
	for _, one := range wrongLegs() {
		for i := range 3 {
			legs := legsWith(3, i, one)
			expect(t, fmt.Sprintf("AreLegs %v", legs), impl.AreLegs(legs), false)
			failing(t, fmt.Sprintf("WalkLegs %v", legs), said(impl.WalkLegs(0, legs)))
		}
	}
}

func TestWalks(t *testing.T) {
	for _, c := range []struct {
		start complex64
		legs  []impl.Leg
		want  []complex64
	}{
		{0, []impl.Leg{leg(0, 1), leg(0.25, 1)}, []complex64{0, 1i, 1 + 1i}}, {1 + 1i, []impl.Leg{leg(0.5, 3)}, []complex64{1 + 1i, 1 - 2i}}, {2, []impl.Leg{leg(0.75, 3)}, []complex64{2, -1}},
		// Turns go around and around, also backwards.
		{0, []impl.Leg{leg(1, 1), leg(1.25, 1), leg(-0.25, 2), leg(-0.5, 2), leg(-1000, 5)}, []complex64{0, 1i, 1 + 1i, -1 + 1i, -1 - 1i, -1 + 4i}},
		{0, []impl.Leg{leg(largest(), 2), leg(-largest(), 2)}, []complex64{0, 2, 4}},
		{0, []impl.Leg{leg(0, num(1)), leg(0.25, num(1))}, []complex64{0, complex(0, num(1)), complex(num(1), num(1))}},
		// A step that is small beside the mark is lost.
		{1e8, []impl.Leg{leg(0.25, 1), leg(0.25, 1)}, []complex64{1e8, 1e8, 1e8}},
		{complex(minusZero(), minusZero()), []impl.Leg{leg(0.25, 1)}, []complex64{complex(minusZero(), minusZero()), 1}},
	} {
		saidTo(t, fmt.Sprintf("WalkLegs %v %v", c.start, c.legs), said(impl.WalkLegs(c.start, c.legs)), c.want)
	}
	for _, z := range wrongPoints() {
		failing(t, "WalkLegs from "+tell(z), said(impl.WalkLegs(z, []impl.Leg{leg(0, 1)})))
	}
	high := leg(0, largest())
	failing(t, "a walk beyond all numbers", said(impl.WalkLegs(0, []impl.Leg{high, high})))
	failing(t, "a walk beyond all numbers and back", said(impl.WalkLegs(0, []impl.Leg{high, high, leg(0.5, largest()), leg(0.5, largest())})))
	saidTo(t, "a walk to the greatest number", said(impl.WalkLegs(0, []impl.Leg{high})), []complex64{0, complex(0, largest())})
}

func TestLegsBetweenMarks(t *testing.T) {
	for _, c := range []struct {
		marks []complex64
		want  []impl.Leg
	}{
		{[]complex64{0, 2}, []impl.Leg{leg(0.25, 2)}}, {[]complex64{0, 3i}, []impl.Leg{leg(0, 3)}}, {[]complex64{0, -2}, []impl.Leg{leg(0.75, 2)}}, {[]complex64{0, -2i}, []impl.Leg{leg(0.5, 2)}},
		{[]complex64{0, 1 + 1i, 2}, []impl.Leg{leg(0.125, 1.4142135), leg(0.375, 1.4142135)}}, {[]complex64{2, 1 + 1i, 0}, []impl.Leg{leg(0.875, 1.4142135), leg(0.625, 1.4142135)}},
		{[]complex64{1 + 1i, 4 + 1i, 4 + 5i, 1 + 1i}, []impl.Leg{leg(0.25, 3), leg(0, 4), leg(0.6024164, 5)}},
		// Between equal marks, the angle is +0, and the way nothing.
		{[]complex64{1i, 1i}, []impl.Leg{leg(0.25, 0)}}, {[]complex64{0, complex(minusZero(), minusZero()), 1}, []impl.Leg{leg(0.25, 0), leg(0.25, 1)}},
		{[]complex64{0, complex(-num(1), 0)}, []impl.Leg{leg(0.75, num(1))}}, {[]complex64{0, complex(0, largest()), complex(largest(), largest())}, []impl.Leg{leg(0, largest()), leg(0.25, largest())}},
		// To the left, but for the least bit downwards, the turn is a little greater than 0.75 before it is rounded.
		{[]complex64{0, complex(-1, -num(1))}, []impl.Leg{leg(0.75, 1)}}, {[]complex64{0, complex(-1, minusZero())}, []impl.Leg{leg(0.75, 1)}},
	} {
		saidTo(t, fmt.Sprintf("LegsOf %v", c.marks), said(impl.LegsOf(c.marks)), c.want)
	}
	far := complex(largest(), largest())
	for _, marks := range [][]complex64{{0}, {1 + 1i}, {-far, far}, {0, far}, {complex(-largest(), 0), complex(largest(), 0)}, {0, 1, 2, far}, {far, 0, 1}} {
		failing(t, "LegsOf "+tell(marks), said(impl.LegsOf(marks)))
	}
	for _, marks := range wrongMarks() {
		failing(t, fmt.Sprintf("LegsOf %d wrong marks", len(marks)), said(impl.LegsOf(marks)))
		failing(t, fmt.Sprintf("CloseWalk of %d wrong marks", len(marks)), said(impl.CloseWalk(marks, 1)))
	}
	for _, n := range []int{2, 31, 32} {
		legs, ok := impl.LegsOf(zigzag(n))
		if !ok || len(legs) != n-1 || !impl.AreLegs(legs) {
			t.Errorf("LegsOf %d marks: got %v, %v", n, legs, ok)
		}
	}
}

func TestClosedWalks(t *testing.T) {
	for _, c := range []struct {
		marks []complex64
		end   complex64
		want  []complex64
	}{
		{[]complex64{0, 1, 2}, 4, []complex64{0, 2, 4}}, {[]complex64{0, 1, 4}, 4 + 4i, []complex64{0, 1 + 1i, 4 + 4i}}, {[]complex64{0, 2, 2 + 2i, 2i}, 0, []complex64{0, 2 - 0.6666667i, 2 + 0.66666663i, 0}},
		{[]complex64{0, 4, 4 + 4i, 4 - 4i}, 4 + 4i, []complex64{0, 4 + 2i, 4 + 8i, 4 + 4i}}, {[]complex64{1, 5}, 1, []complex64{1, 1}}, {[]complex64{1, 5}, 5, []complex64{1, 5}},
		// Equal marks are moved equally, and the way back counts, too.
		{[]complex64{0, 0, 2, 2, 4}, 4i, []complex64{0, 0, 2i, 2i, 4i}}, {[]complex64{0, 1, 0}, 2, []complex64{0, 2, 2}}, {[]complex64{0, complex(num(1), 0)}, 1, []complex64{0, 1}},
		{[]complex64{complex(minusZero(), minusZero()), 1}, 1, []complex64{0, 1}},
	} {
		saidTo(t, fmt.Sprintf("CloseWalk %v", c.marks), said(impl.CloseWalk(c.marks, c.end)), c.want)
	}
	for _, z := range wrongPoints() {
		failing(t, "CloseWalk in "+tell(z), said(impl.CloseWalk([]complex64{0, 1}, z)))
	}
	far := complex(largest(), 0)
	for _, c := range []struct {
		marks []complex64
		end   complex64
	}{
		{[]complex64{0}, 0}, {[]complex64{1 + 1i}, 2}, {[]complex64{1, 1}, 1}, {[]complex64{1, 1, 1}, 2}, {[]complex64{0, complex(minusZero(), 0)}, 0},
		// The sum of all Longs, and the way to the end, are too large.
		{[]complex64{0, far, 0}, 0}, {[]complex64{0, far}, -far}, {[]complex64{-far, far}, 0}, {[]complex64{1e38, 0, 3e38}, -far},
	} {
		failing(t, fmt.Sprintf("CloseWalk %v in %v", c.marks, c.end), said(impl.CloseWalk(c.marks, c.end)))
	}
	saidTo(t, "CloseWalk far away", said(impl.CloseWalk([]complex64{far, 0}, complex(largest(), largest()))), []complex64{far, complex(largest(), largest())})
}

func TestLinesWithTurns(t *testing.T) {
	for _, c := range []struct {
		a     complex64
		turn  float32
		b     complex64
		other float32
		want  complex64
	}{
		{0, 0, 1 + 1i, 0.75, 1i}, {0, 0, 1 + 1i, 0.25, 1i}, {0, 0.5, 1 + 1i, 0.25, 1i}, {1 + 1i, 0.75, 0, 0, 1i}, {3 - 2i, 0.25, -7 + 5i, 0.5, -7 - 2i},
		{2, 0.25, 5 + 5i, 0, 5}, {-3, 0, 5, 0.25, -3}, {0, 1, 1 + 1i, -0.75, 1i},
		// Lines through the same mark meet there.
		{2 + 3i, 0, 2 + 3i, 0.25, 2 + 3i}, {2 + 3i, 0.1, 2 + 3i, 0.3, 2 + 3i}, {0, 0, complex(num(1), num(1)), 0.25, complex(0, num(1))},
		{complex(largest(), 0), 0, complex(0, largest()), 0.25, complex(largest(), largest())},
	} {
		saidTo(t, fmt.Sprintf("MeetTurns %v", c), said(impl.MeetTurns(c.a, c.turn, c.b, c.other)), c.want)
	}
	// Lines that are parallel do not meet, and none meets itself.
	for _, turn := range []float32{0, minusZero(), 0.125, 0.25, 0.3, -0.4, 0.77, num(1), 5, largest()} {
		failing(t, "MeetTurns of parallels", said(impl.MeetTurns(0, turn, 1+2i, turn)))
		failing(t, "MeetTurns of a line", said(impl.MeetTurns(1, turn, 1, turn)))
	}
	for _, turn := range []float32{0, 0.125, 0.25, 0.375, -0.5, 0.75} {
		for _, more := range []float32{-1, -0.5, 0.5, 1, 2} {
			failing(t, fmt.Sprintf("MeetTurns of opposites %v", turn), said(impl.MeetTurns(0, turn, 1+2i, turn+more)))
		}
	}
	far := complex(largest(), 0)
	failing(t, "lines too far apart", said(impl.MeetTurns(-far, 0, far, 0.25)))
	failing(t, "lines that meet beyond all numbers", said(impl.MeetTurns(0, 0, 1e38, 1e-7)))
	for _, z := range wrongPoints() {
		failing(t, "MeetTurns at "+tell(z), said(impl.MeetTurns(z, 0, 1, 0.25)))
		failing(t, "MeetTurns with "+tell(z), said(impl.MeetTurns(1, 0, z, 0.25)))
	}
	for _, x := range wrongNumbers() {
		failing(t, "MeetTurns along "+tell(x), said(impl.MeetTurns(0, x, 1, 0.25)))
		failing(t, "MeetTurns across "+tell(x), said(impl.MeetTurns(0, 0.25, 1, x)))
	}
}

func TestCircles(t *testing.T) {
	for _, c := range []struct {
		a           complex64
		r           float32
		b           complex64
		s           float32
		left, right complex64
	}{
		{0, 5, 6, 5, 3 + 4i, 3 - 4i}, {6, 5, 0, 5, 3 - 4i, 3 + 4i}, {0, 3, 5i, 4, -2.4 + 1.8i, 2.4 + 1.8i}, {1 + 1i, 5, 1 + 7i, 5, -3 + 4i, 5 + 4i}, {0, 4, 3, 5, 4i, -4i}, {0, 5, 3, 4, 3 + 4i, 3 - 4i},
		// Circles that touch, from outside and from inside, meet once.
		{0, 3, 6, 3, 3, 3}, {0, 1, 3, 2, 1, 1}, {0, 5, 2, 3, 5, 5}, {0, 3, 2, 5, -3, -3},
		// Beside the radii, these marks are not apart.
		{0, 1, 1e-30, 1, 1i, -1i}, {0, 2, complex(num(1), 0), 2, 2i, -2i}, {0, 2, complex(0, -num(1)), 2, 2, -2},
	} {
		saidTo(t, fmt.Sprintf("MeetLongs %v on the left", c), said(impl.MeetLongs(c.a, c.r, c.b, c.s, true)), c.left)
		saidTo(t, fmt.Sprintf("MeetLongs %v on the right", c), said(impl.MeetLongs(c.a, c.r, c.b, c.s, false)), c.right)
	}
	for _, left := range []bool{true, false} {
		for _, c := range []struct {
			a complex64
			r float32
			b complex64
			s float32
		}{
			{0, 1, 6, 1}, {0, 2.999, 6, 3}, {0, 3, 6, 2.999}, {0, 9, 2, 3}, {0, 3, 2, 9}, {0, above(5), 2, 3}, {0, 3, 2, above(5)},
			{1, 1, 1, 1}, {1, 1, 1, 2}, {0, 1, complex(minusZero(), 0), 1},
			{0, 0, 1, 1}, {0, 1, 1, 0}, {0, minusZero(), 1, 1}, {0, 1, 1, minusZero()}, {0, -1, 1, 1}, {0, 1, 1, -1}, {0, -5, 6, 5}, {0, 5, 6, -5}, {0, -num(1), 1, 1},
			// Squares that are too large.
			{0, 2e19, 1, 2e19}, {0, 2e19, 1, 1}, {0, 1, 1, 2e19}, {0, 1, 2e19, 2e19}, {0, 1e20, complex(1e20, 0), 1e20}, {complex(-largest(), 0), 1, complex(largest(), 0), 1}, {0, 1, complex(largest(), largest()), 1},
		} {
			failing(t, fmt.Sprintf("MeetLongs %v, %v", c, left), said(impl.MeetLongs(c.a, c.r, c.b, c.s, left)))
		}
		for _, z := range wrongPoints() {
			failing(t, "MeetLongs at "+tell(z), said(impl.MeetLongs(z, 5, 6, 5, left)))
			failing(t, "MeetLongs with "+tell(z), said(impl.MeetLongs(0, 5, z, 5, left)))
		}
		for _, x := range wrongNumbers() {
			failing(t, "MeetLongs within "+tell(x), said(impl.MeetLongs(0, x, 6, 5, left)))
			failing(t, "MeetLongs of "+tell(x), said(impl.MeetLongs(0, 5, 6, x, left)))
		}
	}
}

func TestManyLinesThatMeet(t *testing.T) {
	for _, c := range []struct {
		marks []complex64
		turns []float32
		want  complex64
		miss  float32
	}{
		{[]complex64{0, 1 + 1i}, []float32{0, 0.25}, 1i, 0}, {[]complex64{0, 2, 1i}, []float32{0, 0, 0.25}, 1 + 1i, 1}, {[]complex64{0, 2, 1i}, []float32{0.5, 0, 0.75}, 1 + 1i, 1},
		{[]complex64{3i, 8, 1, -4 + 5i}, []float32{0.25, 0.5, 0, 0.75}, 4.5 + 4i, 3.5}, {[]complex64{0, 0, 3, 1i}, []float32{0, 0, 0, 0.25}, 1 + 1i, 2},
		{[]complex64{2 + 3i, 2 + 3i}, []float32{0, 0.25}, 2 + 3i, 0}, {[]complex64{complex(num(1), 5), complex(7, num(1))}, []float32{0, 0.25}, complex(num(1), num(1)), 0},
	} {
		saidTo(t, fmt.Sprintf("MeetMany %v", c), saidTwo(impl.MeetMany(c.marks, c.turns)), c.want, c.miss)
	}
	for _, c := range []struct {
		marks []complex64
		turns []float32
	}{
		{[]complex64{0}, []float32{0}}, {[]complex64{0, 1}, []float32{0}}, {[]complex64{0, 1}, []float32{0, 0.25, 0.5}}, {[]complex64{0, 1}, nil}, {nil, nil}, {nil, []float32{0, 0.25}},
		// Lines that are parallel, and a single line.
		{[]complex64{0, 1, 2}, []float32{0, 0, 0.5}}, {[]complex64{0, 1i}, []float32{0.25, 0.25}}, {[]complex64{0, 1i}, []float32{0.125, 0.125}}, {[]complex64{0, 5i}, []float32{0, 0}}, {[]complex64{1, 1}, []float32{0, 1}},
		// What lines are off 0, and where they meet, is too large.
		{[]complex64{complex(largest(), largest()), 1}, []float32{0.375, 0}}, {[]complex64{1e38, -1e38}, []float32{0, 1e-7}},
	} {
		failing(t, fmt.Sprintf("MeetMany %v", c), saidTwo(impl.MeetMany(c.marks, c.turns)))
	}
	// With a single line, m can be rounded to other numbers than 0, too.
	for i := range 200 {
		failing(t, "MeetMany of a single line", saidTwo(impl.MeetMany([]complex64{2 + 3i}, []float32{float32(i) / 200})))
	}
	for n := range 40 {
		turns := make([]float32, n)
		for i := range turns {
			turns[i] = float32(i) / 4
		}
		if _, _, ok := impl.MeetMany(zigzag(n), turns); ok != (n >= 2 && n <= 32) {
			t.Errorf("MeetMany of %d marks: got %v", n, ok)
		}
	}
	for _, marks := range wrongMarks() {
		failing(t, "MeetMany of wrong marks", saidTwo(impl.MeetMany(marks, make([]float32, len(marks)))))
		failing(t, "MeetMany of wrong marks that cross", saidTwo(impl.MeetMany(marks, []float32{0, 0.25, 0, 0.25}[:min(len(marks), 4)])))
	}
	for _, x := range wrongNumbers() {
		failing(t, "MeetMany along "+tell(x), saidTwo(impl.MeetMany([]complex64{0, 1, 2}, []float32{0, 0.25, x})))
		failing(t, "MeetMany first along "+tell(x), saidTwo(impl.MeetMany([]complex64{0, 1, 2}, []float32{x, 0.25, 0})))
	}
}

// Where many lines meet in one mark, MeetMany finds it, nearly.
func TestManyLinesThroughOneMark(t *testing.T) {
	for seed := range 60 {
		goal := tangle(1, seed)[0]
		var marks []complex64
		var turns []float32
		for i, z := range tangle(2+seed%31, seed+100) {
			turn := float32(i)*0.37 + float32(seed)/50
			legs := []impl.Leg{leg(turn, real(z)+0.5)}
			walk, _ := impl.WalkLegs(goal, legs)
			marks, turns = append(marks, walk[1]), append(turns, turn)
		}
		got, miss, ok := impl.MeetMany(marks, turns)
		if far := impl.LongOf(got - goal); !ok || far > 1e-4 || miss > 1e-4 {
			t.Errorf("lines through %v meet in %v, %v, %v", goal, got, miss, ok)
		}
	}
}
