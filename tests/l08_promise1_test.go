package tests

import (
	"fmt"
	"slices"
	"strings"
	"sync"
	"testing"

	"loop.example/g01341/impl"
)

// Promise 1: each function returns for all arguments, and equal results for equal arguments.
func TestDesksReturnForAllLines(t *testing.T) {
	desks := append(someDesks()[:4], wrongDesks()[:2]...)
	lines := slices.Concat(formlessLines(), oddTexts(), tileTexts())
	for _, text := range oddTexts() {
		for _, name := range names() {
			lines = append(lines, name+text, name+" "+text, name+" "+text+" "+text, name+" "+text+" "+text+" "+text)
		}
	}
	alike(t, lines, func(line string) string {
		all := ""
		for _, d := range desks {
			all += saidTwo(impl.DeskCommand(d, line))
		}
		return all
	})
}

// deskTexts are scripts, outputs, journals, and other texts.
func deskTexts() []string {
	list := slices.Concat(oddTexts(), someWords(), formlessLines(), []string{strings.Repeat("\n", 16000), strings.Repeat("0 \n", 5333), strings.Repeat("no\n", 10000)})
	for seed := range 20 {
		lines := scriptOf(seed, seed)
		journal, _ := impl.JournalOf(lines)
		script := strings.Join(lines, "\n") + "\n"
		list = append(list, journal, script, journal+journal, journal+script, script[:len(script)/2], journal[:len(journal)/2])
	}
	return list
}

func TestDesksReturnForAllTexts(t *testing.T) {
	desks := append(someDesks()[:4], wrongDesks()[:2]...)
	alike(t, deskTexts(), func(text string) string {
		all := said(impl.ReadPlaces(text)) + said(impl.ReadGrid(text)) + saidTwo(impl.CountOutputs(text)) + said(impl.JournalOf([]string{text})) + said(impl.JournalOf([]string{"a", text, text})) + saidTwo(impl.RecoverJournal(text))
		for _, d := range desks {
			all += saidTwo(impl.RunDesk(d, text)) + saidTwo(impl.RunJournal(d, text))
		}
		return all
	})
}

func TestDesksReturnForAllDesks(t *testing.T) {
	desks := slices.Concat(someDesks(), wrongDesks())
	alike(t, desks, func(d impl.Desk) string {
		all := fmt.Sprint(impl.ValidDesk(d)) + said(impl.PlacesText(d.Places)) + said(impl.GridText(d.Grid)) + words(true, impl.NewDesk())
		for i, other := range desks {
			all += fmt.Sprint(impl.SameDesk(d, other))
			if i < 20 {
				lines := scriptOf(i, i)
				journal, _ := impl.JournalOf(lines)
				all += saidTwo(impl.RunDesk(d, strings.Join(lines, "\n")+"\n")) + saidTwo(impl.RunJournal(d, journal))
			}
		}
		return all
	})
}

// callDesk calls all functions that take a desk, also with some lines.
func callDesk(d impl.Desk, lines []string) {
	impl.ValidDesk(d)
	impl.SameDesk(d, d)
	impl.PlacesText(d.Places)
	impl.GridText(d.Grid)
	for _, line := range lines {
		impl.DeskCommand(d, line)
	}
	script := strings.Join(lines, "\n") + "\n"
	impl.RunDesk(d, script)
	journal, _ := impl.JournalOf(lines)
	impl.RunJournal(d, journal)
}

// Promise 1: no function modifies the lists of a desk, or what lies behind them.
func TestDesksAreNotModified(t *testing.T) {
	lines := append(plainLines(), "what", "", "line none", "keep 3f800000", "go 7f800000 00000000", "way 0 9999")
	for _, d := range slices.Concat(someDesks(), wrongDesks()) {
		unchanged(t, "a function of a desk, or of its places,", d.Places, at(7, 8), func(list []impl.Place) {
			callDesk(desk(d.Here, list, d.Line, d.Grid), lines)
		})
		unchanged(t, "a function of a desk, or of its line,", d.Line, 7+8i, func(list []complex64) {
			callDesk(desk(d.Here, d.Places, list, d.Grid), lines)
		})
		unchanged(t, "a function of a desk, or of its grid,", d.Grid.Heights, 77, func(list []float32) {
			callDesk(desk(d.Here, d.Places, d.Line, ground(d.Grid.Wide, d.Grid.High, list...)), lines)
		})
	}
	for seed := range 20 {
		unchanged(t, "JournalOf", scriptOf(seed, seed), "guard", func(lines []string) { impl.JournalOf(lines) })
		unchanged(t, "JournalOf", slices.Repeat([]string{"a\n", "b"}, seed), "guard", func(lines []string) { impl.JournalOf(lines) })
	}
}

// wipe clears all lists of a desk, with their unused capacity.
func wipe(d impl.Desk) {
	clear(d.Places[:cap(d.Places)])
	clear(d.Line[:cap(d.Line)])
	clear(d.Grid.Heights[:cap(d.Grid.Heights)])
}

// Promise 1: the desk behind a line is new, also if the line changes nothing.
func TestReturnedDesksAreNew(t *testing.T) {
	lines := append(plainLines(), "", "what", "here ", "here none", "line none", "go 7f800000 00000000", "thin 00000000", "keep 00000000", "smooth 0", "way 0 9999")
	for _, d := range someDesks() {
		before := words(true, d)
		for _, line := range lines {
			calls := map[string]func() (impl.Desk, bool){
				"DeskCommand": func() (impl.Desk, bool) {
					after, _, ok := impl.DeskCommand(d, line)
					return after, ok
				},
				"RunDesk": func() (impl.Desk, bool) {
					after, _, ok := impl.RunDesk(d, "what\n"+line+"\n")
					return after, ok
				},
				"RunJournal": func() (impl.Desk, bool) {
					journal, _ := impl.JournalOf([]string{line})
					after, _, ok := impl.RunJournal(d, journal)
					return after, ok
				},
				"RunDesk of an empty script": func() (impl.Desk, bool) {
					after, _, ok := impl.RunDesk(d, "")
					return after, ok
				},
				"RunJournal of an empty journal": func() (impl.Desk, bool) {
					after, _, ok := impl.RunJournal(d, "")
					return after, ok
				},
			}
			for name, call := range calls {
				first, _ := call()
				want := words(true, first)
				second, _ := call()
				wipe(first)
				third, _ := call()
				expect(t, fmt.Sprintf("%s %q, behind a change of another result", name, line), words(true, second), want)
				expect(t, fmt.Sprintf("%s %q, called once more", name, line), words(true, third), want)
				expect(t, fmt.Sprintf("the desk given to %s %q", name, line), words(true, d), before)
			}
		}
	}
	wipe(impl.NewDesk())
	outputs(t, impl.NewDesk(), "places", "00000000,00000000,00000000,3e800000,3e800000,00000000")
	outputs(t, impl.NewDesk(), "peaks", "4")
	outputs(t, impl.NewDesk(), "line", "0000000000000000,3f8000003e000000,4000000000000000")
}

// Promise 1: what changes of a desk that is given away does not change a desk behind a line, and returned lists are new.
func TestReturnedDesksAreApart(t *testing.T) {
	for _, line := range []string{"", "line none", "here", "here 3e000000,bf000000", "thin 3f800000", "fill", "smooth 0"} {
		d := impl.NewDesk()
		after, _ := carried(t, d, line)
		want := words(true, after)
		wipe(d)
		expect(t, fmt.Sprintf("the desk behind %q", line), words(true, after), want)
	}
	places, _ := impl.PlacesText(wandering(20, 1))
	spoil(t, "ReadPlaces", places, impl.ReadPlaces)
	spoil(t, "ReadGrid", hexOfGrid(hills(5, 6, 1)), func(s string) ([]float32, bool) {
		g, ok := impl.ReadGrid(s)
		return g.Heights, ok
	})
	journal, _ := impl.JournalOf([]string{"area", "peaks", "area"})
	spoil(t, "RecoverJournal", journal, func(s string) ([]string, bool) {
		lines, _, ok := impl.RecoverJournal(s)
		return lines, ok
	})
}

// Promise 1: many calls at once return what each of them returns alone.
func TestDesksAtOnce(t *testing.T) {
	desks := someDesks()
	wants := make([]string, 64)
	call := func(i int) string {
		lines := scriptOf(i%20, i)
		journal, _ := impl.JournalOf(lines)
		d := desks[i%len(desks)]
		return saidTwo(impl.RunDesk(d, strings.Join(append(lines, ""), "\n"))) + saidTwo(impl.RunJournal(d, journal)) + saidTwo(impl.DeskCommand(d, "way 0 3"))
	}
	for i := range wants {
		wants[i] = call(i)
	}
	var lock sync.Mutex
	leavesNone(t, len(wants), func(i int) {
		if got := call(i); got != wants[i] {
			lock.Lock()
			defer lock.Unlock()
			t.Errorf("the call %d: got %.300s, want %.300s", i, got, wants[i])
		}
	})
}
