package tests

import (
	"fmt"
	"slices"
	"strings"
	"testing"

	"loop.example/g01341/impl"
)

func TestPlacesText(t *testing.T) {
	succeeds(t, "PlacesText", "3e000000,bf000000")(impl.PlacesText([]impl.Place{at(0.125, -0.5)}))
	succeeds(t, "PlacesText of zeros", "80000000,00000000,00000000,80000000")(impl.PlacesText([]impl.Place{at(minusZero(), 0), at(0, minusZero())}))
	for _, count := range []int{1, 2, 3, 63, 64} {
		places := wandering(count, 1)
		text, ok := impl.PlacesText(places)
		if !ok || text != hexOfPlaces(places...) || len(text) != 18*count-1 {
			t.Errorf("PlacesText of %d places: got %q, %v", count, text, ok)
		}
		saidTo(t, fmt.Sprint("ReadPlaces of places ", count), said(impl.ReadPlaces(text)), places)
	}
	for _, p := range allPlaces() {
		text, ok := impl.PlacesText([]impl.Place{p, at(0, 0), p})
		expect(t, "PlacesText", text, hexOfPlaces(p, at(0, 0), p))
		expect(t, "the success of PlacesText", ok, true)
		saidTo(t, "ReadPlaces "+text, said(impl.ReadPlaces(text)), []impl.Place{p, at(0, 0), p})
	}
	fails[string](t, "PlacesText of no places")(impl.PlacesText(nil))
	for _, count := range []int{65, 66, 128, 129, 1000} {
		fails[string](t, fmt.Sprint("PlacesText of places ", count))(impl.PlacesText(make([]impl.Place, count)))
	}
	for _, p := range wrongPlaces() {
		fails[string](t, fmt.Sprint("PlacesText ", p))(impl.PlacesText([]impl.Place{p}))
		fails[string](t, fmt.Sprint("PlacesText with ", p))(impl.PlacesText([]impl.Place{at(0, 0), p, at(0, 0)}))
	}
}

func TestReadPlaces(t *testing.T) {
	fails := func(text string) {
		t.Helper()
		failing(t, fmt.Sprintf("ReadPlaces %.300q", text), said(impl.ReadPlaces(text)))
	}
	for _, count := range []int{65, 100, 128, 129, 400} {
		fails(hexOfPlaces(make([]impl.Place, count)...))
	}
	for count := 1; count < 260; count += 2 {
		fails(hexOf(make([]float32, count)...))
	}
	for _, p := range wrongPlaces() {
		fails(hexOfPlaces(p))
		fails(hexOfPlaces(at(0, 0), p))
		fails(hexOfPlaces(p, at(0, 0)))
	}
	for _, text := range []string{"", "none", "none,none", "00000000", "00000000,", ",00000000", "00000000,00000000,", ",00000000,00000000", "00000000;00000000", "00000000 00000000", "00000000, 00000000", " 00000000,00000000", "00000000,00000000 ", "00000000,00000000\n", "00000000,0000000", "00000000,000000000", "00000000,3E800000", "00000000,3g800000", "0000000000000000", "00000000,7fc00000", "00000000,7fc00001", "00000000,7f800000", "0,0", "0.125,0.25"} {
		fails(text)
	}
	for _, text := range slices.Concat(oddTexts(), integerWords(), numberWords(), pointWords()) {
		fails(text)
	}
}

func TestGridText(t *testing.T) {
	succeeds(t, "GridText", "2,3;00000000,80000000,3f800000,40000000,40400000,c0800000")(impl.GridText(ground(2, 3, 0, minusZero(), 1, 2, 3, -4)))
	for i, g := range slices.Concat(someGrids(), oddGrids()) {
		what := fmt.Sprint(" of the grid ", i)
		text, ok := impl.GridText(g)
		expect(t, "GridText"+what, text, hexOfGrid(g))
		expect(t, "the success of GridText"+what, ok, true)
		saidTo(t, "ReadGrid"+what, said(impl.ReadGrid(text)), g)
	}
	for i, g := range wrongGrids() {
		fails[string](t, fmt.Sprint("GridText of the wrong grid ", i))(impl.GridText(g))
	}
}

func TestReadGrid(t *testing.T) {
	heights := hexOf(1, 2, 3, 4)
	saidTo(t, "ReadGrid", said(impl.ReadGrid("2,2;"+heights)), ground(2, 2, 1, 2, 3, 4))
	fails := func(text string) {
		t.Helper()
		failing(t, fmt.Sprintf("ReadGrid %.300q", text), said(impl.ReadGrid(text)))
	}
	for _, g := range wrongGrids() {
		fails(hexOfGrid(g))
		fails(fmt.Sprintf("%d,%d;none", g.Wide, g.High))
	}
	for _, sides := range []string{"", "none", "2", "4", "2,", ",2", "2,2,", "2,2,1", "1,4", "4,1", "2,3", "02,2", "2,02", "+2,2", "2, 2", "2 2", " 2,2", "2,2 ", "-2,-2", "2.0,2", "2;2", "1000000000000001,2", "9223372036854775809,2", "18446744073709551618,2", "4294967298,2", strings.Repeat("2,", 63) + "2", strings.Repeat("2,", 64) + "2"} {
		fails(sides + ";" + heights)
	}
	for _, text := range []string{heights, "2,2", "2,2;", "2,2;none", "2,2," + heights, "2,2 " + heights, "2,2:" + heights, "2,2;;" + heights, ";2,2;" + heights, "2,2;" + heights + ";", "2,2; " + heights, "2,2;" + heights + " ", "2,2;" + heights + ",", "2,2;," + heights, "2,2;" + heights + "\n", "2,2;" + hexOf(1, 2, 3), "2,2;" + hexOf(1, 2, 3, 4, 5), "2,2;" + hexOf(1, 2, 3) + ",7fc00001", "2,2;" + hexOf(1, 2, 3) + ",3F800000", "2,2;" + hexOfPoints(1+2i, 3+4i), heights + ";2,2", "17,15;" + hexOf(make([]float32, 255)...), "16,16;" + hexOf(make([]float32, 255)...), "16,16;" + hexOf(make([]float32, 257)...)} {
		fails(text)
	}
	for _, x := range wrongNumbers() {
		fails("2,2;" + hexOf(1, x, 3, 4))
	}
	for _, text := range slices.Concat(oddTexts(), integerWords(), numberWords(), pointWords()) {
		fails(text)
	}
}

// Promise 9 rests on it that texts are read back to the last bit, and that nothing else is read.
func TestTextsThatAreReadAreWritten(t *testing.T) {
	for _, text := range someWords() {
		if list, ok := impl.ReadPlaces(text); ok {
			succeeds(t, "PlacesText of ReadPlaces", text)(impl.PlacesText(list))
		}
		if g, ok := impl.ReadGrid(text); ok {
			succeeds(t, "GridText of ReadGrid", text)(impl.GridText(g))
		}
	}
	// Each text with another byte has another meaning, or none.
	p, g := []impl.Place{at(0.125, -0.5)}, ground(2, 2, 0.5, 2, 3, 4)
	for i, text := range []string{hexOfPlaces(p...), hexOfGrid(g)} {
		for k := range text {
			for b := range 256 {
				if byte(b) == text[k] {
					continue
				}
				other := text[:k] + string([]byte{byte(b)}) + text[k+1:]
				list, ok := impl.ReadPlaces(other)
				back, _ := impl.PlacesText(list)
				grid, also := impl.ReadGrid(other)
				backGrid, _ := impl.GridText(grid)
				if ok && back != other || also && backGrid != other || ok && also {
					t.Errorf("the text %d with the byte %d as %d: got %v, %v, %v, %v", i, k, b, list, ok, grid, also)
				}
			}
		}
	}
}
