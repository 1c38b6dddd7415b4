package tests

import (
	"fmt"
	"testing"

	"loop.example/g01341/impl"
)

// rotated returns a loop that begins with another one of its points.
func rotated(list []complex64, by int) []complex64 {
	by %= len(list)
	return append(append([]complex64{}, list[by:]...), list[:by]...)
}

func TestLoopsThatAreNone(t *testing.T) {
	for _, loop := range wrongLoops() {
		what := tell(loop[:min(len(loop), 5)])
		fails[float32](t, "AreaOfLoop "+what)(impl.AreaOfLoop(loop))
		fails[complex64](t, "MiddleOfLoop "+what)(impl.MiddleOfLoop(loop))
		fails[bool](t, "IsInLoop "+what)(impl.IsInLoop(loop, 1))
		fails[[]int64](t, "HoldersOf "+what)(impl.HoldersOf([][]complex64{square(0, 4), loop}))
		fails[float32](t, "AreaOfShape "+what)(impl.AreaOfShape([][]complex64{loop, square(0, 4)}))
		fails[[]int64](t, "NeighboursOf "+what)(impl.NeighboursOf([][]complex64{square(0, 4), loop}))
		expect(t, "LabelSpot "+what, saidTwo(impl.LabelSpot(loop, 2)), "fails")
	}
	for _, z := range wrongPoints() {
		fails[bool](t, "IsInLoop of "+tell(z))(impl.IsInLoop(square(0, 4), z))
	}
}

func TestHowManyLoopsThereAre(t *testing.T) {
	var loops [][]complex64
	for n := range 19 {
		_, ok := impl.HoldersOf(loops)
		_, also := impl.AreaOfShape(loops)
		_, too := impl.NeighboursOf(loops)
		if want := n >= 1 && n <= 16; ok != want || also != want || too != want {
			t.Errorf("%d loops: got %v, %v and %v", n, ok, also, too)
		}
		loops = append(loops, square(complex(float32(3*n), 0), 1))
	}
}

func TestAreasOfLoops(t *testing.T) {
	for _, c := range []struct {
		loop []complex64
		want float32
	}{
		{[]complex64{0, 2, 2 + 2i, 2i}, 4}, {[]complex64{0, 1, 1i}, 0.5}, {[]complex64{1 + 1i, 4 + 1i, 4 + 5i}, 6}, {square(-1-1i, 2), 4},
		// Loops that touch themselves, and one that crosses itself in its middle.
		{[]complex64{0, 1 + 1i, 2, 2 + 2i, 1 + 1i, 2i}, 2}, {[]complex64{0, 2, 2 + 2i, 1, 2i}, 2}, {[]complex64{0, 2, 2i, 2 + 2i}, 0},
		{[]complex64{0, 1, 2}, 0}, {[]complex64{3, 3, 3}, 0}, {[]complex64{0, 2, 2, 2 + 2i, 2i, 2i, 0}, 4}, {make([]complex64, 128), 0},
		{[]complex64{0, 0x1p-74, 0x1p-74i}, num(1)}, {[]complex64{0, 0x1p-74, 0x1p-75i}, 0},
	} {
		for by := range c.loop {
			loop := rotated(c.loop, by)
			succeeds(t, fmt.Sprintf("AreaOfLoop %v", loop), c.want)(impl.AreaOfLoop(loop))
			area, ok := impl.AreaOfLoop(turned(loop))
			if !ok || area != -c.want {
				t.Errorf("AreaOfLoop %v: got %v, %v", turned(loop), area, ok)
			}
		}
	}
	fails[float32](t, "a cross larger than all numbers")(impl.AreaOfLoop([]complex64{0, 2e19, 2e19 + 2e19i}))
	fails[float32](t, "a sum larger than all numbers")(impl.AreaOfLoop([]complex64{-1e19 - 1e19i, 1e19 - 1e19i, 1e19 + 1e19i, -1e19 + 1e19i}))
	fails[float32](t, "crosses without numbers")(impl.AreaOfLoop([]complex64{0, 2e19 + 2e19i, 3e19 + 4e19i}))
	// Half of the sum is told in the end.
	succeeds(t, "half of a large sum", float32(1.5e38))(impl.AreaOfLoop([]complex64{0, 1e19, complex(0, 3e19)}))
	// Zeros add to zero without a sign.
	zero := complex(0, minusZero())
	succeeds(t, "a loop of zeros", float32(0))(impl.AreaOfLoop([]complex64{zero, -zero, zero}))
}

func TestMiddlesOfLoops(t *testing.T) {
	for _, c := range []struct {
		loop []complex64
		want complex64
	}{
		{[]complex64{0, 2, 2 + 2i, 2i}, 1 + 1i}, {[]complex64{0, 3, 3i}, 1 + 1i}, {square(4-2i, 4), 6}, {[]complex64{0, 6, 6 + 3i}, 4 + 1i},
		{[]complex64{0, 2, 2, 2 + 2i, 2 + 2i, 2i}, 1 + 1i}, {[]complex64{0, 4, 4 + 4i, 2 + 2i, 4i}, 2 + 14i/9},
	} {
		for by := range c.loop {
			for _, loop := range [][]complex64{rotated(c.loop, by), turned(rotated(c.loop, by))} {
				got, ok := impl.MiddleOfLoop(loop)
				if !ok || impl.LongOf(got-c.want) > 1e-6 {
					t.Errorf("MiddleOfLoop %v: got %v, %v, want %v", loop, got, ok, c.want)
				}
			}
		}
	}
	for _, loop := range [][]complex64{{0, 1, 2}, {5, 5, 5}, {0, 2, 2i, 2 + 2i}, {0, 0x1p-74, 0x1p-75i}, {0, 2e19, 2e19 + 2e19i}} {
		fails[complex64](t, fmt.Sprintf("MiddleOfLoop %v", loop))(impl.MiddleOfLoop(loop))
	}
	fails[complex64](t, "a sum larger than all numbers")(impl.MiddleOfLoop([]complex64{0, 1e15, 1e15 + 1e15i}))
	// Six times this area is larger than all numbers, and all that is divided by it vanishes.
	succeeds(t, "a part that is zero", complex64(0))(impl.MiddleOfLoop([]complex64{0x1p127, complex(-0x1p127, 1), 0}))
}

func TestPointsInLoops(t *testing.T) {
	notch := []complex64{0, 4, 4 + 4i, 2 + 2i, 4i}
	eight := []complex64{0, 2, 2i, 2 + 2i}
	touching := []complex64{0, 1 + 1i, 2, 2 + 2i, 1 + 1i, 2i}
	for _, c := range []struct {
		loop []complex64
		z    complex64
		want bool
	}{
		{square(0, 4), 1 + 1i, true}, {square(0, 4), 5, false}, {square(0, 4), -1 + 1i, false}, {square(0, 4), 1 + 5i, false}, {square(0, 4), 1 - 1i, false},
		{notch, 2 + 1i, true}, {notch, 2 + 3i, false}, {notch, 1 + 2.5i, true}, {notch, 3 + 2.5i, true}, {notch, -1 + 2i, false}, {notch, 1 + 2i, true},
		{eight, 1 + 0.5i, true}, {eight, 1 + 1.5i, true}, {eight, 0.5 + 1i, false}, {eight, 1.5 + 1i, false},
		{touching, 0.25 + 1i, true}, {touching, 1.75 + 1i, true}, {touching, 1 + 0.5i, false}, {touching, 1 + 1.5i, false},
		{[]complex64{0, 1, 2}, 1, false}, {[]complex64{3, 3, 3}, 3, false}, {[]complex64{0, 0, 4, 4, 4 + 4i, 4 + 4i, 4i, 4i}, 2 + 2i, true},
		// A loop that goes around twice.
		{append(square(0, 4), square(0, 4)...), 1 + 1i, false},
		// Of borders, those on the left and below are in the loop, and so is the corner of both.
		{square(0, 4), 0, true}, {square(0, 4), 2i, true}, {square(0, 4), 2, true}, {square(0, 4), 4, false}, {square(0, 4), 4 + 2i, false}, {square(0, 4), 4i, false}, {square(0, 4), 2 + 4i, false}, {square(0, 4), 4 + 4i, false},
		{square(0, 4), complex(minusZero(), 1), true}, {square(0, 4), complex(minusZero(), minusZero()), true}, {square(0, 4), complex(-num(1), 1), false}, {square(0, 4), complex(1, -num(1)), false},
		{[]complex64{0, 4, 4i}, 2 + 2i, false}, {[]complex64{0, 4, 4i}, complex(below(2), 2), true}, {[]complex64{4, 4 + 4i, 4i}, 2 + 2i, true},
		{[]complex64{0, complex(0, num(2)), complex(4, num(1))}, complex(1, num(1)), true}, {[]complex64{0, complex(0, num(2)), complex(4, num(1))}, complex(4, num(1)), false},
	} {
		for by := range c.loop {
			for _, loop := range [][]complex64{rotated(c.loop, by), turned(rotated(c.loop, by))} {
				succeeds(t, fmt.Sprintf("IsInLoop %s, %s", tell(loop), tell(c.z)), c.want)(impl.IsInLoop(loop, c.z))
			}
		}
	}
}

// A piece that is too wide for numbers goes on to the right or to the left without an end.
func TestPointsInWideLoops(t *testing.T) {
	wide := []complex64{complex(-largest(), -1), complex(largest(), 1), complex(largest(), 2), complex(-largest(), 2)}
	succeeds(t, "IsInLoop with a piece to the right", true)(impl.IsInLoop(wide, -0.5i))
	succeeds(t, "IsInLoop with a piece to the left", false)(impl.IsInLoop(turned(wide), -0.5i))
	// Next to its beginning, no number tells where it is.
	succeeds(t, "IsInLoop at the lower corner", false)(impl.IsInLoop(wide, complex(0, -1)))
}

// Points are in a loop as the pieces to their right tell, one by one.
func TestPointsInTangles(t *testing.T) {
	for seed := range 60 {
		loop := lattice(3+seed%12, seed)
		if seed%2 == 0 {
			loop = tangle(3+seed%12, seed)
		}
		for _, z := range append(tangle(10, seed+7), lattice(10, seed+8)...) {
			met := 0
			for i, q := range loop {
				p := loop[(i+len(loop)-1)%len(loop)]
				if (imag(p) > imag(z)) == (imag(q) > imag(z)) {
					continue
				}
				share := (imag(z) - imag(p)) / (imag(q) - imag(p))
				if real(z) < real(p)+float32((real(q)-real(p))*share) {
					met++
				}
			}
			succeeds(t, fmt.Sprintf("IsInLoop %v, %v", loop, z), met%2 == 1)(impl.IsInLoop(loop, z))
		}
	}
}

func TestHolders(t *testing.T) {
	big, hole, island, beside := square(0, 8), square(1+1i, 4), square(2+2i, 1), square(6+6i, 1)
	for _, c := range []struct {
		loops [][]complex64
		want  []int64
		area  float32
	}{
		{[][]complex64{big}, []int64{-1}, 64}, {[][]complex64{big, hole}, []int64{-1, 0}, 48}, {[][]complex64{hole, big}, []int64{1, -1}, 48},
		{[][]complex64{big, hole, island, beside}, []int64{-1, 0, 1, 0}, 48}, {[][]complex64{island, beside, hole, big}, []int64{2, 3, 3, -1}, 48},
		{[][]complex64{turned(big), hole, turned(island)}, []int64{-1, 0, 1}, 49}, {[][]complex64{big, square(20, 2)}, []int64{-1, -1}, 68},
		{[][]complex64{square(4+4i, 0.5), big, square(1+1i, 6), square(2+2i, 5), square(3+3i, 3)}, []int64{4, -1, 1, 2, 3}, 44.25},
		// Equal ones do not hold each other, and the first one of two equal holders counts.
		{[][]complex64{hole, hole}, []int64{-1, -1}, 32}, {[][]complex64{hole, hole, island}, []int64{-1, -1, 0}, 31}, {[][]complex64{island, hole, turned(hole), big}, []int64{1, 3, 3, -1}, 33},
		// Loops that touch: the first point decides, and it is in a loop where it is on the left or on the lower border.
		{[][]complex64{big, square(0, 2)}, []int64{-1, 0}, 60}, {[][]complex64{big, square(6+6i, 2)}, []int64{-1, 0}, 60}, {[][]complex64{big, turned(square(6+6i, 2))}, []int64{-1, -1}, 68},
		{[][]complex64{big, rotated(square(6+6i, 2), 2)}, []int64{-1, -1}, 68}, {[][]complex64{big, square(8, 2)}, []int64{-1, -1}, 68}, {[][]complex64{big, rotated(square(8, 2), 1)}, []int64{-1, -1}, 68},
		{[][]complex64{big, square(-2+1i, 2)}, []int64{-1, -1}, 68}, {[][]complex64{big, rotated(square(-2+1i, 2), 1)}, []int64{-1, 0}, 60}, {[][]complex64{big, square(7+1i, 6)}, []int64{-1, 0}, 28},
		// Loops without an area hold nothing, but are held.
		{[][]complex64{big, {1, 2, 3}, {1 + 1i, 1 + 1i, 1 + 1i}}, []int64{-1, 0, 0}, 64}, {[][]complex64{{1, 2, 3}, {1, 2, 3}}, []int64{-1, -1}, 0},
	} {
		succeeds(t, fmt.Sprintf("HoldersOf %v", c.loops), c.want)(impl.HoldersOf(c.loops))
		succeeds(t, fmt.Sprintf("AreaOfShape %v", c.loops), c.area)(impl.AreaOfShape(c.loops))
	}
	wide := []complex64{0, 2e19, 2e19 + 2e19i}
	for _, loops := range [][][]complex64{{wide}, {wide, big}, {big, wide}} {
		fails[[]int64](t, fmt.Sprintf("HoldersOf %v", loops))(impl.HoldersOf(loops))
		fails[float32](t, fmt.Sprintf("AreaOfShape %v", loops))(impl.AreaOfShape(loops))
	}
	large := []complex64{0, 0x1p63, 0x1p63 + 0x1p63i, 0x1p63i}
	succeeds(t, "HoldersOf large loops", []int64{-1, -1, -1, -1})(impl.HoldersOf([][]complex64{large, large, large, large}))
	fails[float32](t, "AreaOfShape of large loops")(impl.AreaOfShape([][]complex64{large, large, large, large}))
}

// As many loops as there can be, one in the other.
func TestNestsOfLoops(t *testing.T) {
	var loops [][]complex64
	var holders []int64
	area := float32(0)
	for i := range 16 {
		side := float32(40 - 2*i)
		loops = append(loops, square(complex(float32(i), float32(i)), side))
		holders = append(holders, int64(i-1))
		area += side * side * float32(1-i%2*2)
	}
	succeeds(t, "HoldersOf a nest", holders)(impl.HoldersOf(loops))
	succeeds(t, "AreaOfShape of a nest", area)(impl.AreaOfShape(loops))
	for i := range holders {
		holders[i] = int64(i + 1)
	}
	holders[15] = -1
	succeeds(t, "HoldersOf a nest turned around", holders)(impl.HoldersOf(turned(loops)))
	succeeds(t, "AreaOfShape of a nest turned around", area)(impl.AreaOfShape(turned(loops)))
}

func TestNeighbours(t *testing.T) {
	left, right := []complex64{0, 1, 1i}, []complex64{1, 1 + 1i, 1i}
	minus := complex(minusZero(), 0)
	for _, c := range []struct {
		loops [][]complex64
		want  []int64
	}{
		{[][]complex64{left}, nil}, {[][]complex64{left, right}, []int64{0, 1}}, {[][]complex64{left, turned(right)}, []int64{0, 1}}, {[][]complex64{turned(left), right}, []int64{0, 1}},
		{[][]complex64{left, left, left}, []int64{0, 1, 0, 2, 1, 2}}, {[][]complex64{square(0, 1), square(2, 1), square(1, 1), square(1i, 1)}, []int64{0, 2, 0, 3, 1, 2}},
		// A point in common is not enough, and neither is a part of a piece.
		{[][]complex64{square(0, 1), square(1+1i, 1)}, nil}, {[][]complex64{square(0, 2), square(2, 1)}, nil}, {[][]complex64{square(0, 2), {0, 1, 2, 1 - 1i}}, nil},
		// The last piece of a loop counts, on either side.
		{[][]complex64{{5, 0, 1}, {0, 7i, 5}}, []int64{0, 1}}, {[][]complex64{{5, 1, 0}, {0, 7i, 5}}, []int64{0, 1}}, {[][]complex64{{5, 1, 0}, {7i, 0, 5}}, []int64{0, 1}}, {[][]complex64{{5, 0, 1}, {7i, 5, 0}}, []int64{0, 1}},
		// Zeros with other signs are not the same, and equal points one after the other are a piece.
		{[][]complex64{{0, 1, 1i}, {minus, 1, -1i}}, nil}, {[][]complex64{{minus, 1, 1i}, {1, minus, -1i}}, []int64{0, 1}}, {[][]complex64{{3, 3, 4}, {3, 3, 5}}, []int64{0, 1}}, {[][]complex64{{3, 3, 4}, {3, 6, 5}}, nil},
	} {
		succeeds(t, fmt.Sprintf("NeighboursOf %s", tell(c.loops)), c.want)(impl.NeighboursOf(c.loops))
	}
	var pairs []int64
	var loops [][]complex64
	for i := range int64(16) {
		loops = append(loops, zigzag(3+int(i)))
		for k := i + 1; k < 16; k++ {
			pairs = append(pairs, i, k)
		}
	}
	succeeds(t, "NeighboursOf 16 loops", pairs)(impl.NeighboursOf(loops))
}
