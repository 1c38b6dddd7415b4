package tests

import (
	"fmt"
	"testing"

	"loop.example/g01341/impl"
)

func TestClippedLines(t *testing.T) {
	low, high := complex64(0), complex64(2+2i)
	for _, c := range []struct {
		list []complex64
		want [][]complex64
	}{
		{[]complex64{-1 + 1i, 3 + 1i}, [][]complex64{{1i, 2 + 1i}}}, {[]complex64{3 + 1i, -1 + 1i}, [][]complex64{{2 + 1i, 1i}}}, {[]complex64{1 - 1i, 1 + 3i}, [][]complex64{{1, 1 + 2i}}},
		{[]complex64{1 + 3i, 1 - 1i}, [][]complex64{{1 + 2i, 1}}}, {[]complex64{-1 - 1i, 3 + 3i}, [][]complex64{{0, 2 + 2i}}}, {[]complex64{0.5 + 0.5i, 1.5 + 1i}, [][]complex64{{0.5 + 0.5i, 1.5 + 1i}}},
		{[]complex64{1 + 1i, 1 + 5i}, [][]complex64{{1 + 1i, 1 + 2i}}}, {[]complex64{5 + 1i, 1 + 1i}, [][]complex64{{2 + 1i, 1 + 1i}}},
		// What is outside, beside a side or beside a corner.
		{[]complex64{-1, -1 + 2i}, nil}, {[]complex64{3, 3 + 2i}, nil}, {[]complex64{-1i, 2 - 1i}, nil}, {[]complex64{3i, 2 + 3i}, nil}, {[]complex64{3, 5 + 2i}, nil}, {[]complex64{-2 + 1i, 1 + 4i}, nil},
		{[]complex64{3 + 3i, 5 + 5i}, nil}, {[]complex64{-1 - 1i, -3 - 3i}, nil}, {[]complex64{-1 - 1i, -1 - 1i}, nil},
		// What goes along a side is inside, and what touches only a corner or a side in a point is left out.
		{[]complex64{-1, 3}, [][]complex64{{0, 2}}}, {[]complex64{-1 + 2i, 3 + 2i}, [][]complex64{{2i, 2 + 2i}}}, {[]complex64{-1i, 3i}, [][]complex64{{0, 2i}}}, {[]complex64{2 - 1i, 2 + 3i}, [][]complex64{{2, 2 + 2i}}},
		{[]complex64{-1 + 1i, 1 - 1i}, nil}, {[]complex64{1 + 3i, 3 + 1i}, nil}, {[]complex64{-1 + 1i, 1i, -1 + 2i}, nil}, {[]complex64{1 - 1i, 1, 2 - 1i}, nil}, {[]complex64{1 + 1i, 1 + 1i}, nil}, {[]complex64{2, 3}, nil},
		// Parts go on where the line before ended, also around equal points, and after a way outside that comes back where it left.
		{[]complex64{0.5, 1 + 1i, 1 + 1i, 1 + 1i, 1.5}, [][]complex64{{0.5, 1 + 1i, 1.5}}}, {[]complex64{1 + 1i, 3 + 1i, 1 + 1i}, [][]complex64{{1 + 1i, 2 + 1i, 1 + 1i}}},
		{[]complex64{1 + 1i, 3 + 1i, 3 + 1i, 4 + 2i, 3 + 1i, 1 + 1i, 1}, [][]complex64{{1 + 1i, 2 + 1i, 1 + 1i, 1}}}, {[]complex64{1, 1 + 2i, 1 + 3i, 1 + 2i, 2}, [][]complex64{{1, 1 + 2i, 2}}},
		{[]complex64{1 + 1i, 3 + 1i, 3, 1}, [][]complex64{{1 + 1i, 2 + 1i}, {2, 1}}}, {[]complex64{-1, 1, 3, 3 + 1i, 1 + 1i, -1 + 1i}, [][]complex64{{0, 1, 2}, {2 + 1i, 1 + 1i, 1i}}},
		// Only the line just before counts.
		{[]complex64{1, 3, 3 + 1i, 1 + 1i, 1 + 3i, 4 + 3i, 4, 2, 1 + 1i}, [][]complex64{{1, 2}, {2 + 1i, 1 + 1i, 1 + 2i}, {2, 1 + 1i}}},
		{square(-1-1i, 4), nil}, {square(0, 2), [][]complex64{{0, 2, 2 + 2i, 2i}}},
	} {
		succeeds(t, fmt.Sprintf("ClipLine %v", c.list), c.want)(impl.ClipLine(c.list, low, high))
	}
}

func TestClippedZeros(t *testing.T) {
	minus := complex(minusZero(), 0)
	// The ends of this part are zeros with other signs, and so are not the same.
	succeeds(t, "a part between zeros", [][]complex64{{0, minus}})(impl.ClipLine([]complex64{0, minus}, -1-1i, 1+1i))
	succeeds(t, "a part that begins at the same zero", [][]complex64{{1, minus, -1}})(impl.ClipLine([]complex64{1, minus, minus, -1}, -1-1i, 1+1i))
	succeeds(t, "a part that begins at the other zero", [][]complex64{{1, minus}, {0, 1}})(impl.ClipLine([]complex64{1, minus, 1}, -1-1i, 1+1i))
	// A share of -0 is not greater than +0, so the part begins at the point plus +0.
	succeeds(t, "a part that begins on the left side", [][]complex64{{0, 1}})(impl.ClipLine([]complex64{minus, 1}, complex(minusZero(), -1), 2+2i))
	succeeds(t, "a part that begins on the lower side", [][]complex64{{0, 1i}})(impl.ClipLine([]complex64{complex(0, minusZero()), 1i}, complex(-1, minusZero()), 2+2i))
	small := complex(num(1), 0)
	succeeds(t, "the least part", [][]complex64{{0, small}})(impl.ClipLine([]complex64{0, small, small}, -1-1i, 1+1i))
	succeeds(t, "the least box", [][]complex64{{0, small}})(impl.ClipLine([]complex64{0, small}, 0, complex(num(1), num(1))))
	// Beside a long line, its part in this box is lost.
	succeeds(t, "a long line in the least box", [][]complex64{})(impl.ClipLine([]complex64{-1, 1}, 0, complex(num(1), num(1))))
}

func TestBoxesToClip(t *testing.T) {
	line := []complex64{0, 1}
	for _, c := range [][2]complex64{{1, 1}, {0, 1}, {0, 1i}, {1 + 1i, 0}, {0, 1 - 1i}, {1, 0 + 1i}, {0, complex(minusZero(), 1)}, {complex(1, minusZero()), 2}, {complex(above(1), 0), 1 + 1i}} {
		fails[[][]complex64](t, fmt.Sprintf("ClipLine to %v and %v", c[0], c[1]))(impl.ClipLine(line, c[0], c[1]))
	}
	for _, z := range wrongPoints() {
		fails[[][]complex64](t, "ClipLine from "+tell(z))(impl.ClipLine(line, z, 9+9i))
		fails[[][]complex64](t, "ClipLine up to "+tell(z))(impl.ClipLine(line, -9-9i, z))
	}
	wide := complex(largest(), largest())
	succeeds(t, "the greatest box", [][]complex64{line})(impl.ClipLine(line, -wide, wide))
	// A way from one end to the other one that is too long for numbers leads to no line, but where its ends are not numbers either, they are the same.
	fails[[][]complex64](t, "a line across all numbers")(impl.ClipLine([]complex64{-wide, wide}, -1-1i, 1+1i))
	fails[[][]complex64](t, "a line to the right across all numbers")(impl.ClipLine([]complex64{complex(-largest(), 0), complex(largest(), 1)}, -1-1i, 1+1i))
	succeeds(t, "a line across the greatest box", [][]complex64{})(impl.ClipLine([]complex64{-wide, wide}, -wide, wide))
}

// teeth returns a line that is in the box from 0 to 100 + 1 i as often as told.
func teeth(n int) []complex64 {
	var line []complex64
	for i := range n {
		line = append(line, complex(float32(i), -1), complex(float32(i), 2), complex(float32(i)+0.5, 3), complex(float32(i)+0.5, 4), complex(-9, 4), complex(-9, -1))
	}
	return line
}

func TestHowManyPartsThereAre(t *testing.T) {
	for _, n := range []int{1, 2, 15, 16} {
		var want [][]complex64
		for i := range n {
			want = append(want, []complex64{complex(float32(i), 0), complex(float32(i), 1)})
		}
		succeeds(t, fmt.Sprintf("%d parts", n), want)(impl.ClipLine(teeth(n), 0, 100+1i))
	}
	for _, n := range []int{17, 21} {
		fails[[][]complex64](t, fmt.Sprintf("%d parts", n))(impl.ClipLine(teeth(n), 0, 100+1i))
	}
	long := zigzag(128)
	succeeds(t, "128 points", [][]complex64{long})(impl.ClipLine(long, -1-1i, 200+200i))
}

// Parts of lines are in the box, nearly, and as long as what is left of the line there, nearly.
func TestClippedTangles(t *testing.T) {
	for seed := range 60 {
		line := tangle(2+seed%11, seed)
		low, high := 2+1i, 6+5i
		parts, ok := impl.ClipLine(line, complex64(low), complex64(high))
		if !ok || !impl.AreLines(parts) {
			t.Fatalf("ClipLine of tangle %d: %v, %v", seed, parts, ok)
		}
		for _, part := range parts {
			least, most, _ := impl.BoxOfLine(part)
			if real(least) < 2-1e-5 || imag(least) < 1-1e-5 || real(most) > 6+1e-5 || imag(most) > 5+1e-5 {
				t.Errorf("the part %v of %v is outside", part, line)
			}
			for i, z := range part {
				far, _ := impl.FarOfLine(line, z)
				if far > 1e-5 || i > 0 && impl.SameComplex(z, part[i-1]) {
					t.Errorf("the point %v of the part %v of %v", z, part, line)
				}
			}
		}
	}
}

func TestJoinedLines(t *testing.T) {
	minus := complex(minusZero(), 0)
	for _, c := range []struct {
		lines, want [][]complex64
	}{
		{nil, nil}, {[][]complex64{{0, 1}}, [][]complex64{{0, 1}}}, {[][]complex64{{0, 0}}, [][]complex64{{0, 0}}},
		// The four cases.
		{[][]complex64{{0, 5, 1}, {1, 6, 2}}, [][]complex64{{0, 5, 1, 6, 2}}}, {[][]complex64{{0, 5, 1}, {2, 6, 1}}, [][]complex64{{0, 5, 1, 6, 2}}},
		{[][]complex64{{0, 5, 1}, {2, 6, 0}}, [][]complex64{{2, 6, 0, 5, 1}}}, {[][]complex64{{0, 5, 1}, {0, 6, 2}}, [][]complex64{{2, 6, 0, 5, 1}}},
		// Where several of them fit, the first one is taken.
		{[][]complex64{{0, 5, 1}, {1, 6, 0}}, [][]complex64{{0, 5, 1, 6, 0}}}, {[][]complex64{{0, 5, 1}, {0, 6, 1}}, [][]complex64{{0, 5, 1, 6, 0}}},
		{[][]complex64{{0, 5, 0}, {0, 6, 1}}, [][]complex64{{0, 5, 0, 6, 1}}}, {[][]complex64{{0, 5, 0}, {1, 6, 0}}, [][]complex64{{0, 5, 0, 6, 1}}}, {[][]complex64{{1, 5, 0}, {0, 6, 0}}, [][]complex64{{1, 5, 0, 6, 0}}},
		{[][]complex64{{0, 5, 1}, {0, 6, 0}}, [][]complex64{{0, 6, 0, 5, 1}}}, {[][]complex64{{0, 5, 0}, {0, 6, 0}}, [][]complex64{{0, 5, 0, 6, 0}}},
		// The first line behind counts, even if it only touches the first point, and joined lines go on from their new ends.
		{[][]complex64{{0, 1}, {2, 0}, {1, 3}}, [][]complex64{{2, 0, 1, 3}}}, {[][]complex64{{0, 1}, {1, 2}, {1, 3}}, [][]complex64{{0, 1, 2}, {1, 3}}}, {[][]complex64{{0, 1}, {1, 3}, {1, 2}}, [][]complex64{{0, 1, 3}, {1, 2}}},
		{[][]complex64{{0, 1}, {2, 3}, {1, 2}}, [][]complex64{{0, 1, 2, 3}}}, {[][]complex64{{0, 1}, {2, 3}, {3, 4}, {2, 1}}, [][]complex64{{0, 1, 2, 3, 4}}}, {[][]complex64{{0, 1}, {5, 6}, {7, 8}, {6, 7}}, [][]complex64{{0, 1}, {5, 6, 7, 8}}},
		{[][]complex64{{5, 6}, {0, 1}, {6, 7}, {1, 2}, {7, 8}}, [][]complex64{{5, 6, 7, 8}, {0, 1, 2}}}, {[][]complex64{{0, 1}, {3, 2}, {1, 3}, {2, 0}}, [][]complex64{{0, 1, 3, 2, 0}}},
		// Other points than ends do not count, and a line is not joined with itself.
		{[][]complex64{{0, 1, 2}, {1, 3}}, [][]complex64{{0, 1, 2}, {1, 3}}}, {[][]complex64{{0, 1, 1i, 0}, {1, 2}}, [][]complex64{{0, 1, 1i, 0}, {1, 2}}}, {[][]complex64{{0, 0}, {0, 0}, {1, 1}}, [][]complex64{{0, 0, 0}, {1, 1}}},
		{[][]complex64{{0, 1}, {0, 1}, {0, 1}}, [][]complex64{{0, 1, 0, 1}}}, {[][]complex64{{0, 1, 2, 0}, {3, 4, 5, 3}, {0, 3}}, [][]complex64{{0, 1, 2, 0, 3, 4, 5, 3}}},
		// Zeros with other signs are not the same.
		{[][]complex64{{1, 0}, {minus, 2}}, [][]complex64{{1, 0}, {minus, 2}}}, {[][]complex64{{1, minus}, {minus, 2}}, [][]complex64{{1, minus, 2}}}, {[][]complex64{{1, minus}, {0, 2}, {minus, 3}}, [][]complex64{{1, minus, 3}, {0, 2}}},
	} {
		succeeds(t, fmt.Sprintf("JoinLines %s", tell(c.lines)), c.want)(impl.JoinLines(c.lines))
	}
}

// joinedByHand joins the first two lines that touch, again and again from the first line on.
func joinedByHand(lines [][]complex64) [][]complex64 {
	for i, a := range lines {
		for k := i + 1; k < len(lines); k++ {
			b := lines[k]
			var both []complex64
			switch {
			case impl.SameComplex(a[len(a)-1], b[0]):
				both = append(append(both, a...), b[1:]...)
			case impl.SameComplex(a[len(a)-1], b[len(b)-1]):
				both = append(append(both, a...), turned(b)[1:]...)
			case impl.SameComplex(a[0], b[len(b)-1]):
				both = append(append(both, b...), a[1:]...)
			case impl.SameComplex(a[0], b[0]):
				both = append(turned(b), a[1:]...)
			default:
				continue
			}
			var rest [][]complex64
			for j, line := range lines {
				switch j {
				case i:
					rest = append(rest, both)
				case k:
				default:
					rest = append(rest, line)
				}
			}
			return joinedByHand(rest)
		}
	}
	return lines
}

func TestJoinedLattices(t *testing.T) {
	for seed := range 200 {
		var lines [][]complex64
		for i := range seed % 17 {
			lines = append(lines, lattice(2+(seed+i)%4, seed*16+i))
		}
		succeeds(t, fmt.Sprintf("JoinLines of lattice %d", seed), joinedByHand(lines))(impl.JoinLines(lines))
	}
}

func TestHowLongJoinedLinesAre(t *testing.T) {
	long := zigzag(128)
	for _, cut := range []int{1, 2, 64, 126} {
		lines := [][]complex64{long[:cut+1], long[cut:]}
		succeeds(t, fmt.Sprintf("128 points, cut at %d", cut), [][]complex64{long})(impl.JoinLines(lines))
		succeeds(t, fmt.Sprintf("128 points, cut at %d, and others", cut), [][]complex64{long, {500, 501}})(impl.JoinLines(append(lines, []complex64{500, 501})))
		fails[[][]complex64](t, fmt.Sprintf("129 points, cut at %d", cut))(impl.JoinLines(append(lines, []complex64{long[127], 500})))
	}
	var pieces [][]complex64
	for i := range 16 {
		pieces = append(pieces, long[i:i+2])
	}
	succeeds(t, "16 pieces", [][]complex64{long[:17]})(impl.JoinLines(pieces))
	succeeds(t, "16 pieces turned around", [][]complex64{long[:17]})(impl.JoinLines(turned(pieces)))
	fails[[][]complex64](t, "17 pieces")(impl.JoinLines(append(pieces, long[16:18])))
	var apart [][]complex64
	for i := range 16 {
		apart = append(apart, long[3*i:3*i+2])
	}
	succeeds(t, "16 lines apart", apart)(impl.JoinLines(apart))
}
