package tests

import (
	"fmt"
	"strings"
	"testing"

	"loop.example/g01341/impl"
)

// refused checks lines that are not carried out: the output is no, and nothing changes.
func refused(t *testing.T, d impl.Desk, lines ...string) {
	t.Helper()
	for _, line := range lines {
		outputs(t, d, line, "no")
	}
}

// wrongIndexWords are words that are no indices of count things, the one that is just no longer one among them.
func wrongIndexWords(count int) []string {
	return []string{impl.Decimal(int64(count)), impl.Decimal(int64(count + 1)), "-1", "4294967296", "1000000000000000", "1000000000000001", "18446744073709551616", "00", "-0", "+0", "0.0", "", "none", "x", "0\n", "00000000"}
}

// notOneNumber are words that are no texts of a list of one number.
func notOneNumber() []string {
	return []string{"", "none", "3f800000,3f800000", "3f800000,", ",3f800000", "3f80000", "3f8000000", "3F800000", "3g800000", "7fc00001", "ffc00000", "3f80000000000000", "1", "0", "3f800000\n"}
}

// notOnePoint are words that are no texts of a list of one complex number.
func notOnePoint() []string {
	return []string{"", "none", "3f80000000000000,3f80000000000000", "3f80000000000000,", "3f800000", "3f800000,00000000", "3f8000000000000", "3f800000000000000", "3F80000000000000", "3f8000007fc00001", "7f80000100000000", "1"}
}

// behind puts a name in front of each of some words.
func behind(name string, words []string) []string {
	lines := make([]string, len(words))
	for i, word := range words {
		lines[i] = name + " " + word
	}
	return lines
}

func TestLinesThatSetAPart(t *testing.T) {
	d := impl.NewDesk()
	p, q := at(0.125, -0.5), at(minusZero(), 0.25)
	becomes(t, d, "here 3e000000,bf000000", desk(p, d.Places, d.Line, d.Grid), "ok")
	becomes(t, d, "here 80000000,3e800000", desk(q, d.Places, d.Line, d.Grid), "ok")
	becomes(t, d, "places 3e000000,bf000000", desk(d.Here, []impl.Place{p}, d.Line, d.Grid), "ok")
	becomes(t, d, "places "+hexOfPlaces(spread(64)...), desk(d.Here, spread(64), d.Line, d.Grid), "ok")
	becomes(t, d, "line 3f80000080000000,0000000040000000", desk(d.Here, d.Places, []complex64{complex(1, minusZero()), 2i}, d.Grid), "ok")
	becomes(t, d, "line "+hexOfPoints(zigzag(128)...), desk(d.Here, d.Places, zigzag(128), d.Grid), "ok")
	becomes(t, d, "grid 2,2;00000000,80000000,3f800000,40000000", desk(d.Here, d.Places, d.Line, ground(2, 2, 0, minusZero(), 1, 2)), "ok")
	becomes(t, d, "grid "+hexOfGrid(hills(16, 16, 2)), desk(d.Here, d.Places, d.Line, hills(16, 16, 2)), "ok")

	refused(t, d, "here ", "here none", "here 3e000000", "here 3e000000,bf000000,3e000000", "here 3e000000,bf000000,3e000000,bf000000", "here 3e800001,00000000", "here 00000000,3f000000", "here 7fc00000,00000000", "here 0,0", "here here")
	refused(t, d, "places ", "places none", "places 3e000000", "places 3e000000,bf000000,3e000000", "places 3e800001,00000000", "places "+hexOfPlaces(spread(65)...), "places "+hexOf(make([]float32, 257)...))
	// A list that ReadComplex reads, but that is no line, makes no valid desk.
	refused(t, d, "line ", "line none", "line 3f80000000000000", "line "+hexOfPoints(zigzag(129)...), "line "+hexOfPoints(zigzag(256)...), "line "+hexOfPoints(zigzag(257)...), "line 3f80000000000000,7f80000000000000", "line 3f80000000000000,000000007fc00000", "line 3f800000,00000000", "line 3f80000000000000,3f8000007fc00001")
	refused(t, d, "grid ", "grid none", "grid 2,2;none", "grid 1,1;00000000", "grid 2,2;00000000,00000000,00000000", "grid 2,2;00000000,00000000,00000000,7f800000", "grid "+hexOfGrid(level(17, 2, 0)), "grid 2,2,00000000,00000000,00000000,00000000")
}

func TestLinesThatTellAPart(t *testing.T) {
	d := desk(at(0.125, -0.5), []impl.Place{at(minusZero(), 0.25), at(0.25, 0)}, []complex64{1, complex(minusZero(), 2)}, ground(2, 2, 0, minusZero(), 1, 2))
	outputs(t, d, "here", "3e000000,bf000000")
	outputs(t, d, "places", "80000000,3e800000,3e800000,00000000")
	outputs(t, d, "line", "3f80000000000000,8000000040000000")
	outputs(t, d, "grid", "2,2;00000000,80000000,3f800000,40000000")
	outputs(t, d, "here 3e000000,bf000000", "ok")
	outputs(t, d, "places 80000000,3e800000,3e800000,00000000", "ok")
	outputs(t, d, "line 3f80000000000000,8000000040000000", "ok")
	outputs(t, d, "grid 2,2;00000000,80000000,3f800000,40000000", "ok")
	largest := desk(d.Here, spread(64), zigzag(128), hills(16, 16, 1))
	outputs(t, largest, "places", hexOfPlaces(spread(64)...))
	outputs(t, largest, "line", hexOfPoints(zigzag(128)...))
	outputs(t, largest, "grid", hexOfGrid(hills(16, 16, 1)))
}

func TestLinesAboutPlaces(t *testing.T) {
	d := impl.NewDesk()
	goal, _ := impl.GoFrom(at(0, 0), 0.125, 0.0625)
	becomes(t, d, "go 3e000000 3d800000", desk(goal, d.Places, d.Line, d.Grid), "ok")
	// The course comes first.
	other, _ := impl.GoFrom(at(0, 0), 0.0625, 0.125)
	becomes(t, d, "go 3d800000 3e000000", desk(other, d.Places, d.Line, d.Grid), "ok")
	becomes(t, d, "go 80000000 00000000", desk(at(0, 0), d.Places, d.Line, d.Grid), "ok")
	for _, word := range append(notOneNumber(), "7f800000", "ff800000", "7fc00000") {
		refused(t, d, "go "+word+" 00000000", "go 00000000 "+word)
	}

	// Apart is told from Here, and so is the course: another one leads back.
	east := desk(at(0, 0.125), []impl.Place{at(0, 0), at(0, 0.25), at(0.25, 0)}, d.Line, d.Grid)
	outputs(t, east, "apart 0", "3e000000")
	outputs(t, east, "apart 1", "3e000000")
	outputs(t, east, "apart 2", "3e800000")
	outputs(t, east, "course 0", "3f400000")
	outputs(t, east, "course 1", "3e800000")
	outputs(t, east, "course 2", "00000000")
	north := desk(at(0.2, 0.1), []impl.Place{at(-0.1, 0.3)}, d.Line, d.Grid)
	course, _ := impl.CourseTo(at(0.2, 0.1), at(-0.1, 0.3))
	outputs(t, north, "course 0", hexOf(course))
	for _, name := range []string{"apart", "course"} {
		refused(t, east, behind(name, wrongIndexWords(3))...)
		refused(t, north, behind(name, wrongIndexWords(1))...)
		refused(t, north, name+" 2")
		outputs(t, desk(d.Here, make([]impl.Place, 64), d.Line, d.Grid), name+" 63", "00000000")
		refused(t, desk(d.Here, make([]impl.Place, 64), d.Line, d.Grid), name+" 64")
	}

	outputs(t, east, "nearest", "0")
	outputs(t, desk(at(0.2, 0), east.Places, d.Line, d.Grid), "nearest", "2")
	outputs(t, desk(at(0, 0.2), east.Places, d.Line, d.Grid), "nearest", "1")
	outputs(t, desk(at(0.01, 0), make([]impl.Place, 64), d.Line, d.Grid), "nearest", "0")
	outputs(t, east, "area", "3e800000")
	outputs(t, desk(at(0, 0), turned(east.Places), d.Line, d.Grid), "area", "be800000")
	outputs(t, north, "area", "00000000")
	// The way around is closed.
	outputs(t, east, "long", "3f400000")
	outputs(t, desk(at(0, 0), east.Places[:2], d.Line, d.Grid), "long", "3f000000")
	outputs(t, north, "long", "00000000")
	outputs(t, d, "steps", "0,0")
	outputs(t, desk(at(0.25, -0.5), d.Places, d.Line, d.Grid), "steps", "4194304,-8388608")
	outputs(t, desk(at(-0.125, 0.25), d.Places, d.Line, d.Grid), "steps", "-2097152,4194304")
}

func TestLinesAboutTheLine(t *testing.T) {
	d := impl.NewDesk()
	with := func(points ...complex64) impl.Desk { return desk(d.Here, d.Places, points, d.Grid) }
	becomes(t, d, "thin 3f800000", with(0, 2), "2")
	// The inner point has the area 1/8, which is not less than itself.
	becomes(t, d, "thin 3e000000", d, "3")
	becomes(t, d, "thin 3e000001", with(0, 2), "2")
	becomes(t, d, "thin 80000000", d, "3")
	becomes(t, d, "keep 80000000", d, "3")
	becomes(t, d, "keep 3f800000", with(0, 2), "2")
	becomes(t, d, "keep 3e000000", with(0, 2), "2")
	becomes(t, d, "keep 3dffffff", d, "3")
	// Both lines leave out other points.
	both := with(0, 4+0.25i, 8, 8.25+0.5i, 8.5)
	becomes(t, both, "thin 3e800000", with(0, 4+0.25i, 8.5), "3")
	becomes(t, both, "keep 3e800000", with(0, 8, 8.25+0.5i, 8.5), "4")
	for _, name := range []string{"thin", "keep"} {
		refused(t, d, behind(name, append(notOneNumber(), "7f800000", "ff800000", "7fc00000", "80000001", "bf800000"))...)
	}
	// A number on the way is not finite.
	refused(t, with(complex(largest(), 0), 1, complex(-largest(), 0)), "keep 00000000")

	becomes(t, d, "smooth 0", d, "ok")
	becomes(t, d, "smooth 1", with(0, 1+0.0625i, 2), "ok")
	becomes(t, d, "smooth 2", with(0, 1+0.03125i, 2), "ok")
	after, _ := carried(t, d, "smooth 64")
	expect(t, "the line behind smooth 64", after.Line, []complex64{0, complex(1, 1.0/(1<<62)/32), 2})
	refused(t, d, behind("smooth", []string{"65", "-1", "-0", "00", "", "none", "3f800000", "1000000000000000", "1000000000000001", "4294967296"})...)
	refused(t, with(0, complex(largest(), 0), complex(largest(), 0), 1), "smooth 1")

	outputs(t, d, "cross", "0")
	outputs(t, with(0, 2+2i, 2, 2i), "cross", "1")
	// The line is not closed: the piece that would close it crosses another one.
	outputs(t, with(0, 2, 1-1i, 1+2i, 3+1i), "cross", "1")
	outputs(t, with(0, 2, 1+1i, 3-1i), "cross", "0")
	outputs(t, with(0, 4, 4+2i, 2+2i, 2-1i), "cross", "1")

	outputs(t, d, "far 0000000000000000", "00000000")
	outputs(t, d, "far 4080000000000000", "40000000")
	outputs(t, d, "far 00000000c0400000", "40400000")
	refused(t, d, behind("far", append(notOnePoint(), "7f80000000000000", "00000000ff800000", "7fc0000000000000", "7f7fffff7f7fffff"))...)
}

func TestLinesAboutTheGrid(t *testing.T) {
	d := impl.NewDesk()
	with := func(g impl.Grid) impl.Desk { return desk(d.Here, d.Places, d.Line, g) }
	outputs(t, d, "height 3f8000003f800000", "40800000")
	outputs(t, d, "height 3fc000003f800000", "40600000")
	slope := with(ground(2, 3, 0, 1, 2, 3, 4, 5))
	// The real part leads along rows.
	outputs(t, slope, "height 3f00000000000000", "3f000000")
	outputs(t, slope, "height 000000003f000000", "3f800000")
	outputs(t, slope, "height 3f80000040000000", "40a00000")
	outputs(t, slope, "height 8000000080000000", "00000000")
	refused(t, slope, behind("height", append(notOnePoint(), "3f80000100000000", "0000000040000001", "8000000100000000", "0000000080000001", "7fc0000000000000", "000000007f800000"))...)

	outputs(t, d, "drains", "-1,0,-1,0,0,2,-1,6,-1")
	outputs(t, d, "peaks", "4")
	outputs(t, with(level(3, 2, 1)), "drains", "-1,-1,-1,-1,-1,-1")
	outputs(t, with(level(3, 2, 1)), "peaks", "none")
	outputs(t, with(ground(3, 3, 2, 0, 2, 0, 0, 0, 2, 0, 2)), "peaks", "0,2,6,8")
	refused(t, with(ground(2, 2, largest(), -largest(), 0, 0)), "drains")

	pit := ground(3, 3, 5, 5, 5, 5, 1, 5, 5, 4, 5)
	becomes(t, with(pit), "fill", with(withHeight(pit, 4, 4)), "1")
	becomes(t, d, "fill", d, "0")
	wide := ground(4, 4, 9, 9, 9, 9, 9, 0, 1, 9, 9, 2, 7, 9, 9, 9, 9, 9)
	becomes(t, with(wide), "fill", with(level(4, 4, 9)), "4")

	outputs(t, slope, "contour 3f000000", "4")
	outputs(t, slope, "contour 00000000", "0")
	outputs(t, slope, "contour 40c00000", "0")
	outputs(t, d, "contour 40600000", "12")
	refused(t, d, behind("contour", append(notOneNumber(), "7f800000", "ff800000", "7fc00000"))...)
	// Both differences of heights are too large, and their quotient is none.
	refused(t, with(ground(2, 2, largest(), -largest(), 0, 0)), "contour ff7ffffe")
}

func TestLinesAboutSights(t *testing.T) {
	d := impl.NewDesk()
	with := func(g impl.Grid) impl.Desk { return desk(d.Here, d.Places, d.Line, g) }
	outputs(t, d, "sees 0 4 00000000", "never")
	outputs(t, d, "sees 0 8 00000000", "never")
	outputs(t, d, "sees 0 8 41a00000", "yes")
	outputs(t, d, "sees 0 0 80000000", "yes")
	// The eye is above the first place: from a high one, one sees a low one behind the edge only from above, and not the other way round.
	hill := with(ground(3, 2, 0, 3, 0, 9, 9, 9))
	outputs(t, hill, "sees 0 2 00000000", "never")
	outputs(t, hill, "sees 0 2 41a00000", "yes")
	cliff := with(ground(3, 2, 20, 3, 0, 9, 9, 9))
	outputs(t, cliff, "sees 0 2 00000000", "yes")
	step := with(ground(3, 2, 4, 4, 0, 9, 9, 9))
	outputs(t, step, "sees 0 2 41a00000", "yes")
	outputs(t, step, "sees 2 0 00000000", "never")
	told := map[string]int{}
	for i, g := range append(someGrids()[5:40], hills(16, 16, 2)) {
		for k := range int64(len(g.Heights)) {
			from, to := int64(i)%int64(len(g.Heights)), k
			sees, ok := impl.SeesPlace(g, from, to, 0.5, 0, 8)
			expect(t, "the success of SeesPlace", ok, true)
			output := map[bool]string{true: "yes", false: "never"}[sees]
			told[output]++
			outputs(t, with(g), fmt.Sprintf("sees %d %d 3f000000", from, to), output)
		}
	}
	if told["yes"] < 100 || told["never"] < 100 {
		t.Errorf("only so many places are seen, or not: %v", told)
	}
	for _, word := range wrongIndexWords(9) {
		refused(t, d, "sees "+word+" 0 00000000", "sees 0 "+word+" 00000000")
	}
	outputs(t, d, "sees 8 8 00000000", "yes")
	for _, word := range append(notOneNumber(), "7f800000", "ff800000", "7fc00000", "80000001", "bf800000") {
		refused(t, d, "sees 0 8 "+word)
	}
	refused(t, with(level(2, 2, largest())), "sees 0 1 7f7fffff")
}

func TestLinesAboutWays(t *testing.T) {
	d := impl.NewDesk()
	with := func(g impl.Grid) impl.Desk { return desk(d.Here, d.Places, d.Line, g) }
	outputs(t, d, "way 0 0", "0")
	outputs(t, d, "way 8 8", "8")
	// Across the hill, one climbs as much as the way around is longer, or less.
	outputs(t, d, "way 0 2", "0,1,2")
	outputs(t, d, "way 2 0", "2,1,0")
	// A climb of 1 makes the way straight over a height of 1 as cheap as a part of a way around.
	outputs(t, with(ground(3, 3, 0, 0.5, 0, 0, 5, 0, 0, 0, 0)), "way 0 2", "0,1,2")
	outputs(t, with(ground(3, 3, 0, 5, 0, 0, 0, 0, 0, 0, 0)), "way 0 2", "0,4,2")
	for _, word := range wrongIndexWords(9) {
		refused(t, d, "way "+word+" 0", "way 0 "+word)
	}
	refused(t, with(ground(2, 2, -largest(), largest(), largest(), largest())), "way 0 3")
}

// Lists of more than MaxItems indices have no text: drains of large grids, and long ways.
func TestListsThatAreTooLong(t *testing.T) {
	d := impl.NewDesk()
	with := func(g impl.Grid) impl.Desk { return desk(d.Here, d.Places, d.Line, g) }
	for wide := int64(2); wide <= 16; wide++ {
		for high := int64(2); high <= 16; high++ {
			g := hills(wide, high, int(wide+high))
			if wide*high > 64 {
				refused(t, with(g), "drains")
				continue
			}
			drains, _ := impl.DrainsOf(g)
			outputs(t, with(g), "drains", strings.Trim(strings.ReplaceAll(fmt.Sprint(drains), " ", ","), "[]"))
		}
	}
	// There are never more than 64 peaks.
	dots := level(16, 16, 0)
	for i := range dots.Heights {
		dots.Heights[i] = float32((1 - i%2) * (1 - i/16%2))
	}
	_, peaks := carried(t, with(dots), "peaks")
	expect(t, "the number of peaks", strings.Count(peaks, ","), 63)
	lengths := map[int]bool{}
	for to := range int64(256) {
		way, _, ok := impl.LeastWay(walls(), 0, to, 1)
		expect(t, "the success of LeastWay", ok, true)
		lengths[len(way)] = true
		line := fmt.Sprint("way 0 ", to)
		if len(way) > 64 {
			refused(t, with(walls()), line)
			continue
		}
		outputs(t, with(walls()), line, strings.Trim(strings.ReplaceAll(fmt.Sprint(way), " ", ","), "[]"))
	}
	if !lengths[64] || !lengths[65] {
		t.Errorf("no ways have 64 and 65 places")
	}
}

// Other lines are no forms, and change nothing: words that are too many or too few, empty ones at the beginning or the end, and other names.
func TestOtherLines(t *testing.T) {
	for i, d := range someDesks()[:9] {
		for k, line := range formlessLines() {
			if i < 2 || k%7 == i {
				outputs(t, d, line, "what")
			}
		}
	}
	d := impl.NewDesk()
	for _, line := range []string{"", " ", "here  ", " here", "peaks ", "peaks 0", "apart", "apart 0 0", "apart 0 ", "go 00000000", "go 00000000 00000000 00000000", "go 00000000 00000000 ", "sees 0 1", "sees 0 1 00000000 0", "way 0", "way 0 1 2", "thin", "smooth", "far", "height", "contour", "Peaks", "peak", "near", "what", "no"} {
		outputs(t, d, line, "what")
	}
	// An empty word behind the first one is a word: the line has a form, but the word is none that it must be.
	refused(t, d, "here ", "places ", "line ", "grid ", "apart ", "course ", "thin ", "keep ", "smooth ", "far ", "height ", "contour ", "go  ", "go 00000000 ", "go  00000000", "sees   ", "sees 0  00000000", "sees 0 1 ", "way  ", "way 0 ", "way  0")
}

func TestCommandsFailAtWrongDesks(t *testing.T) {
	for i, d := range wrongDesks() {
		for _, line := range []string{"", "what", "here", "peaks", "here 00000000,00000000", "places 00000000,00000000", "line 0000000000000000,3f80000000000000", "grid 2,2;00000000,00000000,00000000,00000000"} {
			failing(t, fmt.Sprintf("DeskCommand %q at the wrong desk %d", line, i), saidTwo(impl.DeskCommand(d, line)))
		}
	}
}
