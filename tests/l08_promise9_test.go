package tests

import (
	"fmt"
	"slices"
	"strings"
	"testing"

	"loop.example/g01341/impl"
)

// These tell, for a line of words w that has a form, the desk behind it, its output, and whether it is carried out, as the table of chapter 8 says.

// partByHand is about lines that set or tell a part of a desk.
func partByHand(d impl.Desk, w []string) (impl.Desk, string, bool) {
	ok := true
	output := "ok"
	switch strings.Join([]string{w[0], fmt.Sprint(len(w) - 1)}, " ") {
	case "here 0":
		output = hexOfPlaces(d.Here)
	case "places 0":
		output = hexOfPlaces(d.Places...)
	case "line 0":
		output = hexOfPoints(d.Line...)
	case "grid 0":
		output = hexOfGrid(d.Grid)
	case "here 1":
		list, read := impl.ReadPlaces(w[1])
		if ok = read && len(list) == 1; ok {
			d.Here = list[0]
		}
	case "places 1":
		d.Places, ok = impl.ReadPlaces(w[1])
	case "line 1":
		d.Line, ok = impl.ReadComplex(w[1])
	case "grid 1":
		d.Grid, ok = impl.ReadGrid(w[1])
	}
	return d, output, ok
}

// placesByHand is about other lines with places.
func placesByHand(d impl.Desk, w []string) (impl.Desk, string, bool) {
	var x float32
	ok, index := true, int64(0)
	if len(w) == 2 {
		index, ok = impl.ReadDecimal(w[1])
		if !ok || index < 0 || index >= int64(len(d.Places)) {
			return d, "", false
		}
	}
	switch w[0] {
	case "go":
		course, read := impl.ReadNumbers(w[1])
		far, also := impl.ReadNumbers(w[2])
		if !read || !also || len(course) != 1 || len(far) != 1 {
			return d, "", false
		}
		d.Here, ok = impl.GoFrom(d.Here, course[0], far[0])
		return d, "ok", ok
	case "apart":
		x, ok = impl.ApartOf(d.Here, d.Places[index])
	case "course":
		x, ok = impl.CourseTo(d.Here, d.Places[index])
	case "area":
		x, ok = impl.AreaOfPlaces(d.Places)
	case "long":
		x, ok = impl.LongOfPlaces(d.Places, true)
	case "nearest":
		index, _, ok = impl.NearestPlace(d.Places, d.Here)
		return d, fmt.Sprint(index), ok
	case "steps":
		north, east, ok := impl.StepsOf(d.Here)
		return d, fmt.Sprintf("%d,%d", north, east), ok
	}
	return d, hexOf(x), ok
}

// lineByHand is about other lines with the line.
func lineByHand(d impl.Desk, w []string) (impl.Desk, string, bool) {
	switch w[0] {
	case "cross":
		count, ok := impl.CrossingsOf(d.Line, false)
		return d, fmt.Sprint(count), ok
	case "smooth":
		times, read := impl.ReadDecimal(w[1])
		line, ok := impl.SmoothLine(d.Line, times)
		d.Line = line
		return d, "ok", ok && read
	case "far":
		z, read := impl.ReadComplex(w[1])
		if !read || len(z) != 1 {
			return d, "", false
		}
		far, ok := impl.FarOfLine(d.Line, z[0])
		return d, hexOf(far), ok
	}
	x, read := impl.ReadNumbers(w[1])
	if !read || len(x) != 1 {
		return d, "", false
	}
	ok := false
	if w[0] == "thin" {
		d.Line, ok = impl.ThinByAreas(d.Line, x[0])
	} else {
		d.Line, ok = impl.ThinByHeights(d.Line, x[0])
	}
	return d, fmt.Sprint(len(d.Line)), ok
}

// indicesByHand writes a list of at most MaxItems indices.
func indicesByHand(list []int64) (string, bool) {
	text := strings.ReplaceAll(strings.Trim(fmt.Sprint(list), "[]"), " ", ",")
	if text == "" {
		text = "none"
	}
	return text, len(list) <= 64
}

// gridByHand is about other lines with the grid.
func gridByHand(d impl.Desk, w []string) (impl.Desk, string, bool) {
	var list []int64
	ok := false
	switch w[0] {
	case "fill":
		g, count, ok := impl.FillPits(d.Grid)
		d.Grid = g
		return d, fmt.Sprint(count), ok
	case "height":
		z, read := impl.ReadComplex(w[1])
		if !read || len(z) != 1 {
			return d, "", false
		}
		height, ok := impl.HeightAt(d.Grid, z[0])
		return d, hexOf(height), ok
	case "contour":
		x, read := impl.ReadNumbers(w[1])
		if !read || len(x) != 1 {
			return d, "", false
		}
		points, ok := impl.ContourPieces(d.Grid, x[0])
		return d, fmt.Sprint(len(points)), ok
	case "drains":
		list, ok = impl.DrainsOf(d.Grid)
	case "peaks":
		list, ok = impl.PeaksOf(d.Grid)
	case "sees", "way":
		n, read := impl.ReadDecimal(w[1])
		k, also := impl.ReadDecimal(w[2])
		if !read || !also {
			return d, "", false
		}
		if w[0] == "sees" {
			return seesByHand(d, n, k, w[3])
		}
		list, _, ok = impl.LeastWay(d.Grid, n, k, 1)
	}
	text, fits := indicesByHand(list)
	return d, text, ok && fits
}

func seesByHand(d impl.Desk, from, to int64, word string) (impl.Desk, string, bool) {
	eye, read := impl.ReadNumbers(word)
	if !read || len(eye) != 1 {
		return d, "", false
	}
	sees, ok := impl.SeesPlace(d.Grid, from, to, eye[0], 0, 8)
	if sees {
		return d, "yes", ok
	}
	return d, "never", ok
}

// deskByHand tells the desk behind any line, and its output.
func deskByHand(d impl.Desk, line string) (impl.Desk, string) {
	w := strings.Split(line, " ")
	if !slices.Contains(formsOf[w[0]], len(w)-1) {
		return d, "what"
	}
	after, output, ok := impl.Desk{}, "", false
	switch w[0] {
	case "here", "places", "line", "grid":
		after, output, ok = partByHand(d, w)
	case "go", "apart", "course", "nearest", "area", "long", "steps":
		after, output, ok = placesByHand(d, w)
	case "thin", "keep", "smooth", "cross", "far":
		after, output, ok = lineByHand(d, w)
	default:
		after, output, ok = gridByHand(d, w)
	}
	if !ok || !impl.ValidDesk(after) {
		return d, "no"
	}
	return after, output
}

// Promise 9: a desk outputs what the functions tell, at desks of all kinds and for each form of lines, with words of all kinds in each place.
func TestDesksOutputWhatFunctionsTell(t *testing.T) {
	lines := slices.Concat(formedLines(), formlessLines()[:10])
	told := map[string]int{}
	for i, d := range someDesks() {
		for _, line := range lines {
			want, output := deskByHand(d, line)
			after, got := carried(t, d, line)
			if got != output || !impl.SameDesk(after, want) {
				t.Fatalf("%.300q at the desk %d: got %.300q, want %.300q, and the desk %.300s, want %.300s", line, i, got, output, words(true, after), words(true, want))
			}
			name, _, _ := strings.Cut(line, " ")
			if got == "no" {
				name += " no"
			}
			told[name]++
		}
	}
	for _, name := range names() {
		if told[name] == 0 {
			t.Errorf("no line %s is carried out", name)
		}
		if formsOf[name][len(formsOf[name])-1] > 0 && told[name+" no"] == 0 {
			t.Errorf("each line %s is carried out", name)
		}
	}
}

// scriptOf returns lines that follow from a seed: most of them are carried out, and change the desk.
func scriptOf(count, seed int) []string {
	d := someDesks()[1+seed%8]
	plain := []string{
		"here " + hexOfPlaces(spread(9)[seed%9]), "go 3e000000 3d800000", "go bf19999a 3e99999a", "places " + hexOfPlaces(wandering(1+seed%20, seed)...), "places " + hexOfPlaces(d.Places...), "line " + hexOfPoints(wander(2+seed%30, seed)...), "line " + hexOfPoints(lattice(12, seed)...), "grid " + hexOfGrid(hills(int64(2+seed%6), int64(2+seed%5), seed)), "fill", "thin 3e800000", "keep 3d800000", "smooth 1", "smooth 3",
		"here", "places", "line", "grid", "apart 0", "apart 2", "course 1", "nearest", "area", "long", "steps", "cross", "far 3f8000003f000000", "height 3f0000003f000000", "drains", "peaks", "contour 40000000", "sees 0 3 3f800000", "way 0 3", "way 3 1",
		"", "what", "line none", "way 0 256", " here", "go 7f800000 00000000",
	}
	lines := make([]string, count)
	for i, z := range tangle(count, seed+1000) {
		lines[i] = plain[int(real(z)*1e5)%len(plain)]
	}
	return lines
}

// Promise 9: a script is carried out line by line, and each output is that of its line at the desk behind the lines before it.
func TestScriptsOutputWhatFunctionsTell(t *testing.T) {
	for seed := range 120 {
		start := someDesks()[seed%17]
		lines := scriptOf(seed, seed)
		d, all := start, ""
		bad := int64(0)
		for _, line := range lines {
			after, output := deskByHand(d, line)
			step, got := carried(t, d, line)
			if got != output || !impl.SameDesk(step, after) {
				t.Fatalf("%.300q in the script %d: got %.300q, want %.300q", line, seed, got, output)
			}
			d = after
			all += output + "\n"
			if output == "no" || output == "what" {
				bad++
			}
		}
		script := ""
		for _, line := range lines {
			script += line + "\n"
		}
		if len(script) > impl.MaxScript {
			failing(t, fmt.Sprint("RunDesk of the script ", seed), saidTwo(impl.RunDesk(start, script)))
			continue
		}
		saidTo(t, fmt.Sprint("RunDesk of the script ", seed), saidTwo(impl.RunDesk(start, script)), d, all)
		if len(all) <= impl.MaxScript {
			saidTo(t, fmt.Sprint("CountOutputs of the script ", seed), saidTwo(impl.CountOutputs(all)), bad, int64(seed)-bad)
		}
		journal, ok := impl.JournalOf(lines)
		if !ok {
			continue
		}
		saidTo(t, fmt.Sprint("RunJournal of the script ", seed), saidTwo(impl.RunJournal(start, journal)), d, int64(seed))
	}
}

// intactByHand tells how many lines of a text are those of a journal, one after another from the first one on.
func intactByHand(text string) ([]string, int64) {
	var lines []string
	length, check := 0, int64(0)
	parts := strings.Split(text, "\n")
	// What is behind the last newline is no line.
	for _, part := range parts[:len(parts)-1] {
		digits, line, found := strings.Cut(part, " ")
		for _, b := range []byte(line) {
			check = (877*check + int64(b) + 163) % 65003
		}
		if !found || digits != fmt.Sprint(check) {
			break
		}
		lines = append(lines, line)
		length += len(part) + 1
	}
	return lines, int64(length)
}

// Promise 9: a journal is recovered as far as it is intact, wherever it is cut, and whichever byte becomes which other one.
func TestJournalsAreRecoveredAsFarAsTheyAreIntact(t *testing.T) {
	lines := []string{"peaks", "", "apart 1", " ", "thin 3f800000", "line", "é\x00\xff", "go 3e000000 3d800000", "fill", "here"}
	journal, ok := impl.JournalOf(lines)
	if !ok {
		t.Fatal("JournalOf fails")
	}
	ends := []int{0}
	for i, b := range []byte(journal) {
		if b == '\n' {
			ends = append(ends, i+1)
		}
	}
	expect(t, "the number of lines", len(ends), len(lines)+1)
	whole := func(bytes int) int {
		n := 0
		for n < len(lines) && ends[n+1] <= bytes {
			n++
		}
		return n
	}
	d := impl.NewDesk()
	desks := []impl.Desk{d}
	for _, line := range lines {
		d, _ = deskByHand(d, line)
		desks = append(desks, d)
	}
	check := func(what, text string, n int) {
		t.Helper()
		saidTo(t, "RecoverJournal "+what, saidTwo(impl.RecoverJournal(text)), lines[:n], int64(ends[n]))
		saidTo(t, "RunJournal "+what, saidTwo(impl.RunJournal(impl.NewDesk(), text)), desks[n], int64(n))
		again, _ := impl.JournalOf(lines[:n])
		expect(t, "the journal of what is recovered "+what, again, text[:ends[n]])
	}
	for cut := range len(journal) + 1 {
		check(fmt.Sprint("cut at the byte ", cut), journal[:cut], whole(cut))
		if cut == len(journal) {
			break
		}
		for b := range 256 {
			if byte(b) != journal[cut] {
				check(fmt.Sprintf("with the byte %d as %d", cut, b), journal[:cut]+string([]byte{byte(b)})+journal[cut+1:], whole(cut))
			}
		}
		// A byte that is missing, or one more, too.
		if missing := journal[:cut] + journal[cut+1:]; cut > 0 {
			got, length := intactByHand(missing)
			saidTo(t, fmt.Sprint("RecoverJournal without the byte ", cut), saidTwo(impl.RecoverJournal(missing)), got, length)
		}
		for _, more := range []string{" ", "\n", "0", "1", "\x00"} {
			longer := journal[:cut] + more + journal[cut:]
			got, length := intactByHand(longer)
			saidTo(t, fmt.Sprintf("RecoverJournal with %q at the byte %d", more, cut), saidTwo(impl.RecoverJournal(longer)), got, length)
		}
	}
	for _, more := range []string{"x", "\n", " ", "0 \n", "peaks\n", journal} {
		check(fmt.Sprintf("with %q behind it", more), journal+more, len(lines))
	}
}

// Promise 9: journals of all kinds of lines are recovered whole, and lead to the same desk as the script.
func TestJournalsAreRecovered(t *testing.T) {
	for seed := range 60 {
		lines := scriptOf(seed%30, seed)
		journal, ok := impl.JournalOf(lines)
		if !ok {
			t.Fatalf("JournalOf of the script %d fails", seed)
		}
		byHand, length := intactByHand(journal)
		saidTo(t, fmt.Sprint("lines by hand of the script ", seed), words(true, byHand, length), lines, int64(len(journal)))
		saidTo(t, fmt.Sprint("RecoverJournal of the script ", seed), saidTwo(impl.RecoverJournal(journal)), lines, int64(len(journal)))
		d := someDesks()[seed%17]
		script := ""
		for _, line := range lines {
			script += line + "\n"
		}
		end, _, ok := impl.RunDesk(d, script)
		expect(t, "the success of RunDesk", ok, true)
		saidTo(t, fmt.Sprint("RunJournal of the script ", seed), saidTwo(impl.RunJournal(d, journal)), end, int64(len(lines)))
	}
}
