package tests

import (
	"fmt"
	"slices"
	"strings"
	"testing"

	"loop.example/g01341/impl"
)

// deskWordsOf writes the parts of desks one by one.
func deskWordsOf(x any) []string {
	if d, ok := x.(impl.Desk); ok {
		return []string{words(true, d.Here, d.Places, d.Line, d.Grid)}
	}
	return []string{tell(x)}
}

func desk(here impl.Place, places []impl.Place, line []complex64, grid impl.Grid) impl.Desk {
	return impl.Desk{Here: here, Places: places, Line: line, Grid: grid}
}

// someDesks are valid desks with ordinary and with odd parts, the smallest and the largest ones among them.
func someDesks() []impl.Desk {
	list := []impl.Desk{
		impl.NewDesk(),
		desk(at(0, 0), []impl.Place{at(0, 0)}, []complex64{0, 0}, level(2, 2, 0)),
		desk(at(minusZero(), -0.5), spread(64), zigzag(128), hills(16, 16, 2)),
		desk(at(-0.25, below(0.5)), edgePlaces(), tangle(40, 1), hills(8, 8, 1)),
		desk(at(0.25, minusZero()), spread(7), lattice(60, 2), hills(5, 13, 3)),
		desk(at(0.1, 0.2), []impl.Place{at(0.25, 0), at(-0.25, 0), at(0.1, 0.2)}, wideLine(9, 1), oddGround(3, 4, 1)),
		desk(at(0, 0.25), []impl.Place{at(minusZero(), minusZero()), at(num(1), -num(1))}, []complex64{complex(minusZero(), 0), complex(0, minusZero())}, level(3, 3, minusZero())),
		desk(at(-0.2, -0.3), spread(3), []complex64{0, complex(largest(), largest()), complex(-largest(), -largest()), 1}, ground(2, 2, largest(), -largest(), 0, 1)),
		desk(at(0.2, 0.3), spread(2), square(1+1i, 2), walls()),
	}
	for seed := range 8 {
		list = append(list, desk(spread(9)[seed], wandering(1+3*seed, seed), wander(2+5*seed, seed), hills(int64(2+seed), int64(2+seed*3%7), seed)))
	}
	return list
}

// walls returns a grid with high walls, around which the way from the first place to the last one has more than MaxItems places.
func walls() impl.Grid {
	g := level(16, 16, 0)
	for i := range g.Heights {
		x, y := i%16, i/16
		if y%2 == 1 && x != 15*(y/2%2) {
			g.Heights[i] = 1000
		}
	}
	return g
}

// wrongDesks are not valid, each because of just one part.
func wrongDesks() []impl.Desk {
	good := impl.NewDesk()
	list := []impl.Desk{{}}
	for _, p := range wrongPlaces() {
		list = append(list, desk(p, good.Places, good.Line, good.Grid), desk(good.Here, []impl.Place{at(0, 0), p}, good.Line, good.Grid))
	}
	for _, count := range []int{0, 65, 1000} {
		list = append(list, desk(good.Here, make([]impl.Place, count), good.Line, good.Grid))
	}
	for _, line := range wrongLines() {
		list = append(list, desk(good.Here, good.Places, line, good.Grid))
	}
	for _, g := range wrongGrids() {
		list = append(list, desk(good.Here, good.Places, good.Line, g))
	}
	return list
}

// carried carries out a line at a valid desk, which must leave a valid one.
func carried(t *testing.T, d impl.Desk, line string) (impl.Desk, string) {
	t.Helper()
	after, output, ok := impl.DeskCommand(d, line)
	if !ok || !impl.ValidDesk(after) {
		t.Fatalf("DeskCommand %q: got %s, %q, %v", line, words(true, after), output, ok)
	}
	return after, output
}

// outputs checks the output of a line that changes nothing.
func outputs(t *testing.T, d impl.Desk, line, want string) {
	t.Helper()
	becomes(t, d, line, d, want)
}

// becomes checks the desk behind a line, and its output.
func becomes(t *testing.T, d impl.Desk, line string, want impl.Desk, output string) {
	t.Helper()
	after, got := carried(t, d, line)
	if got != output || !impl.SameDesk(after, want) {
		t.Errorf("%q: got %q, want %q, and the desk %s, want %s", line, got, output, words(true, after), words(true, want))
	}
}

// hexOf writes the bits of numbers as chapter 1 tells, with , between them.
func hexOf(numbers ...float32) string {
	list := make([]string, len(numbers))
	for i, x := range numbers {
		list[i] = fmt.Sprintf("%08x", impl.BitsOf(x))
	}
	return strings.Join(list, ",")
}

// hexOfPoints does the same with complex numbers.
func hexOfPoints(points ...complex64) string {
	list := make([]string, len(points))
	for i, z := range points {
		list[i] = hexOf(real(z)) + hexOf(imag(z))
	}
	return strings.Join(list, ",")
}

// hexOfPlaces does the same with places.
func hexOfPlaces(places ...impl.Place) string {
	var numbers []float32
	for _, p := range places {
		numbers = append(numbers, p.North, p.East)
	}
	return hexOf(numbers...)
}

// hexOfGrid writes a grid as chapter 8 tells.
func hexOfGrid(g impl.Grid) string {
	return fmt.Sprintf("%d,%d;%s", g.Wide, g.High, hexOf(g.Heights...))
}

// formsOf tells how many words can come behind the first word of lines.
var formsOf = map[string][]int{
	"here": {0, 1}, "places": {0, 1}, "line": {0, 1}, "grid": {0, 1},
	"go": {2}, "apart": {1}, "course": {1}, "nearest": {0}, "area": {0}, "long": {0}, "steps": {0},
	"thin": {1}, "keep": {1}, "smooth": {1}, "cross": {0}, "far": {1},
	"height": {1}, "drains": {0}, "peaks": {0}, "fill": {0}, "contour": {1}, "sees": {3}, "way": {2},
}

// names are the first words of lines.
func names() []string {
	var list []string
	for name := range formsOf {
		list = append(list, name)
	}
	slices.Sort(list)
	return list
}

// integerWords are words that are numbers in decimal, of the places of small and large desks among them, or are none.
func integerWords() []string {
	return []string{"0", "1", "2", "3", "4", "8", "9", "63", "64", "65", "255", "256", "-1", "1000000000000000", "-1000000000000000", "1000000000000001", "-1000000000000001", "9223372036854775808", "18446744073709551616", "4294967296", "-0", "00", "01", "+1", "1.0", "1e1", "x", "٣", "1,2", "1\n", "1\t", "0x1"}
}

// numberWords are words that are texts of one number, of none and of several ones, and other words.
func numberWords() []string {
	list := []string{"none", "3f800000,3f800000", "3f800000,", ",3f800000", "3f80000", "3f8000000", "3F800000", "3g800000", "7fc00001", "ffc00000", "", "3f800000\n", "none,3f800000"}
	for _, x := range []float32{0, minusZero(), num(1), 0.25, 0.5, 1, 1.5, -1, 100, 1e30, largest(), -largest(), infinite(), -infinite(), num(0x7fc00000)} {
		list = append(list, hexOf(x))
	}
	return list
}

// pointWords are words that are texts of one complex number, of none and of several ones, and other words.
func pointWords() []string {
	list := []string{"3f8000003f80000", "3f8000003f8000000", "3F8000003f800000", "3f8000007fc00001", "7f8000013f800000", "3f800000,00000000", "3f80000000000000,"}
	for _, x := range []float32{0, minusZero(), 0.75, 1, 2, 15, above(15), -num(1), largest(), infinite(), num(0x7fc00000)} {
		list = append(list, hexOfPoints(complex(x, 1)), hexOfPoints(complex(0.5, x)))
	}
	return list
}

// partWords are words that are texts of places, lines and grids, or nearly.
func partWords() []string {
	list := []string{hexOfPlaces(spread(64)...), hexOfPlaces(spread(65)...), hexOfPlaces(at(0, 0), at(0.1, 0.2)), hexOfPlaces(at(minusZero(), -0.5)), hexOf(0, 0, 0), hexOf(make([]float32, 256)...), hexOf(make([]float32, 257)...)}
	for _, p := range wrongPlaces() {
		list = append(list, hexOfPlaces(p), hexOfPlaces(at(0, 0), p))
	}
	for _, line := range append(wrongLines()[2:6], zigzag(2), zigzag(128), make([]complex64, 256), make([]complex64, 257), []complex64{complex(minusZero(), 0), 1}, []complex64{0, complex(infinite(), 0)}) {
		list = append(list, hexOfPoints(line...))
	}
	for _, g := range slices.Concat(wrongGrids(), []impl.Grid{level(2, 2, minusZero()), hills(16, 16, 1), hills(8, 8, 2), hills(5, 13, 3)}) {
		list = append(list, hexOfGrid(g))
	}
	return append(list, "2,2", "2,2;", "2,2;none", ";", ";;", "2,2;"+hexOf(1, 2, 3, 4)+";", "2,2,2;"+hexOf(make([]float32, 8)...), "4;"+hexOf(1, 2, 3, 4), "02,2;"+hexOf(1, 2, 3, 4), "none;"+hexOf(1, 2, 3, 4), hexOf(1, 2, 3, 4)+";2,2")
}

func someWords() []string {
	return slices.Concat(integerWords(), numberWords(), pointWords(), partWords())
}

// plainWords are the words behind the first word of lines that can be carried out at most desks.
var plainWords = map[string][]string{
	"go": {"3e000000", "3d800000"}, "apart": {"0"}, "course": {"0"}, "thin": {"3f000000"}, "keep": {"3e000000"}, "smooth": {"2"}, "far": {"3f80000000000000"},
	"height": {"3f0000003f000000"}, "contour": {"3f800000"}, "sees": {"0", "1", "3f800000"}, "way": {"0", "3"}, "here": {"3e000000,00000000"}, "places": {"3e000000,00000000,00000000,3e000000"}, "line": {"3f80000000000000,0000000000000000"}, "grid": {"2,2;00000000,00000000,00000000,00000000"},
}

// plainLines are lines of all forms, with plain words.
func plainLines() []string {
	var list []string
	for _, name := range names() {
		for _, count := range formsOf[name] {
			list = append(list, strings.Join(append([]string{name}, plainWords[name][:count]...), " "))
		}
	}
	return list
}

// formedLines are lines that have a form, with ordinary and with wrong words in each place.
func formedLines() []string {
	var list []string
	for _, name := range names() {
		for _, count := range formsOf[name] {
			if count == 0 {
				list = append(list, name)
				continue
			}
			for i := range count {
				for _, word := range someWords() {
					w := slices.Clone(plainWords[name])[:count]
					w[i] = word
					list = append(list, name+" "+strings.Join(w, " "))
				}
			}
		}
	}
	return list
}

// formlessLines are lines that have none of the forms.
func formlessLines() []string {
	list := []string{"", " ", "  ", "what", "no", "ok", "near", "Here", "herE", "hereplaces", "her", "\x00", "\xff", "é", "here\n", "peaks\n", "peaks\r", "peaks\t", "\tpeaks", "peaks\x00", "apart\t1", "apart,1", "go\u00a03f800000\u00a03f800000", strings.Repeat("x", 20000), strings.Repeat(" ", 20000), "peaks" + strings.Repeat(" ", 20000)}
	for _, name := range names() {
		list = append(list, " "+name, name+name, strings.ToUpper(name), name[:len(name)-1]+"_", "\n"+name)
		for count := range 6 {
			if slices.Contains(formsOf[name], count) {
				continue
			}
			list = append(list, name+strings.Repeat(" ", count), name+strings.Repeat(" 0", count), name+strings.Repeat(" 3f800000", count), name+strings.Repeat(" none", count))
			if plain := plainWords[name]; count > 0 && len(plain) > 0 {
				list = append(list, name+strings.Repeat(" "+plain[0], count))
			}
		}
		for _, count := range formsOf[name] {
			if w := strings.Join(append([]string{name}, plainWords[name]...), " "); count > 0 {
				list = append(list, " "+w, w+strings.Repeat(" ", 3), strings.Replace(w, " ", "   ", 1))
			}
		}
	}
	return list
}
