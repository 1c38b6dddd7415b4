package tests

import (
	"fmt"
	"strings"
	"testing"

	"loop.example/g01341/impl"
)

func TestJournalOf(t *testing.T) {
	succeeds(t, "JournalOf no lines", "")(impl.JournalOf(nil))
	// Nothing changes the check number of an empty line.
	succeeds(t, "JournalOf an empty line", "0 \n")(impl.JournalOf([]string{""}))
	succeeds(t, "JournalOf empty lines", "0 \n0 \n0 \n")(impl.JournalOf([]string{"", "", ""}))
	// The byte a is 97, and 97 + 163 is 260; then come 877 * 260 + 98 + 163 and so on.
	succeeds(t, "JournalOf a letter", "260 a\n")(impl.JournalOf([]string{"a"}))
	succeeds(t, "JournalOf two letters", "260 a\n33272 b\n")(impl.JournalOf([]string{"a", "b"}))
	succeeds(t, "JournalOf a line of two letters", "33272 ab\n")(impl.JournalOf([]string{"ab"}))
	succeeds(t, "JournalOf a blank", "195  \n195 \n")(impl.JournalOf([]string{" ", ""}))
	succeeds(t, "JournalOf bytes", "163 \x00\n13363 \xff\n")(impl.JournalOf([]string{"\x00", "\xff"}))
	area, _ := impl.CheckOf(0, "area")
	peaks, _ := impl.CheckOf(area, "peaks 1")
	succeeds(t, "JournalOf commands", fmt.Sprintf("%d area\n%d peaks 1\n", area, peaks))(impl.JournalOf([]string{"area", "peaks 1"}))
	for _, lines := range [][]string{{"\n"}, {"a\nb"}, {"a\n"}, {"\na"}, {"a", "b\n", "c"}, {"a", "b", "\n"}, {"\r\n"}} {
		fails[string](t, fmt.Sprintf("JournalOf %q", lines))(impl.JournalOf(lines))
	}
}

// journalLong tells how many bytes the journal of lines has, however many these are.
func journalLong(lines []string) int {
	length, check := 0, int64(0)
	for _, line := range lines {
		check, _ = impl.CheckOf(check, line)
		length += len(fmt.Sprint(check)) + len(line) + 2
	}
	return length
}

// longJournal returns lines whose journal has so many bytes, from 200 on.
func longJournal(t *testing.T, bytes int) []string {
	t.Helper()
	var lines []string
	for journalLong(lines) < bytes-140 {
		lines = append(lines, strings.Repeat("a", 90+len(lines)%3))
	}
	// The last line fills up what is left: which length it needs depends on the digits of its own check number.
	for rest := range 150 {
		for _, letter := range "bcdefgh" {
			whole := append(lines[:len(lines):len(lines)], strings.Repeat(string(letter), rest))
			if journalLong(whole) == bytes {
				return whole
			}
		}
	}
	t.Fatalf("no lines have a journal of %d bytes", bytes)
	return nil
}

// MaxScript is reached exactly, and passed by one byte.
func TestLongJournals(t *testing.T) {
	for bytes := 15990; bytes <= 16000; bytes++ {
		lines := longJournal(t, bytes)
		journal, ok := impl.JournalOf(lines)
		if !ok || len(journal) != bytes {
			t.Fatalf("JournalOf lines for %d bytes: got %d bytes, %v", bytes, len(journal), ok)
		}
		saidTo(t, fmt.Sprint("RecoverJournal of bytes ", bytes), saidTwo(impl.RecoverJournal(journal)), lines, int64(bytes))
		saidTo(t, fmt.Sprint("RunJournal of bytes ", bytes), saidTwo(impl.RunJournal(impl.NewDesk(), journal)), impl.NewDesk(), int64(len(lines)))
		full := journal + strings.Repeat("x", 16000-bytes)
		saidTo(t, fmt.Sprint("RecoverJournal filled up from bytes ", bytes), saidTwo(impl.RecoverJournal(full)), lines, int64(bytes))
		failing(t, fmt.Sprint("RecoverJournal of a byte more, from bytes ", bytes), saidTwo(impl.RecoverJournal(full+"x")))
		failing(t, fmt.Sprint("RunJournal of a byte more, from bytes ", bytes), saidTwo(impl.RunJournal(impl.NewDesk(), full+"x")))
	}
	for bytes := 16001; bytes < 16008; bytes++ {
		fails[string](t, fmt.Sprint("JournalOf bytes ", bytes))(impl.JournalOf(longJournal(t, bytes)))
	}
	// One line alone has up to 15992 bytes, if its check number has 5 digits.
	reached := false
	for count := 15985; count < 16010; count++ {
		line := strings.Repeat("a", count)
		check, _ := impl.CheckOf(0, line)
		want := fmt.Sprintf("%d %s\n", check, line)
		reached = reached || len(want) == 16000
		if len(want) <= 16000 {
			succeeds(t, fmt.Sprint("JournalOf a line of bytes ", count), want)(impl.JournalOf([]string{line}))
		} else {
			fails[string](t, fmt.Sprint("JournalOf a line of bytes ", count))(impl.JournalOf([]string{line}))
		}
	}
	expect(t, "that a line reaches MaxScript", reached, true)
	empty := make([]string, 5333)
	succeeds(t, "JournalOf empty lines", strings.Repeat("0 \n", 5333))(impl.JournalOf(empty))
	fails[string](t, "JournalOf one more empty line")(impl.JournalOf(append(empty, "")))
	fails[string](t, "JournalOf very many empty lines")(impl.JournalOf(make([]string, 1000000)))
	for _, text := range []string{strings.Repeat("0 \n", 5334), strings.Repeat("x", 16001), strings.Repeat("\n", 100000)} {
		failing(t, "RecoverJournal of a text that is too long", saidTwo(impl.RecoverJournal(text)))
		failing(t, "RunJournal of a text that is too long", saidTwo(impl.RunJournal(impl.NewDesk(), text)))
	}
}

func TestRecoverJournal(t *testing.T) {
	recovers := func(text string, length int64, lines ...string) {
		t.Helper()
		saidTo(t, fmt.Sprintf("RecoverJournal %.300q", text), saidTwo(impl.RecoverJournal(text)), lines, length)
	}
	recovers("", 0)
	recovers("0 \n", 3, "")
	recovers("260 a\n33272 b\n", 14, "a", "b")
	recovers("260 a\n33272 b\nmore", 14, "a", "b")
	recovers("260 a\n33272 b", 6, "a")
	recovers("260 a\n260 a\n", 6, "a")
	recovers("260 a\n260 \n", 11, "a", "")
	recovers("260 a\n0 \n", 6, "a")
	recovers("195  \n195 \n", 11, " ", "")
	recovers("0 \n260 a\n", 9, "", "a")
	recovers("0 \n\n260 a\n", 3, "")
	// A line can look like one of a journal.
	inner, _ := impl.CheckOf(0, "260 a")
	recovers(fmt.Sprintf("%d 260 a\n", inner), int64(len(fmt.Sprint(inner)))+7, "260 a")
	// Check numbers are written just as they are.
	for _, text := range []string{"0260 a\n", "00260 a\n", "+260 a\n", "-260 a\n", " 260 a\n", "260\ta\n", "260a\n", "260 a", "260", "260 ", "260 \n", "261 a\n", "65263 a\n", "260  a\n", "260 a \n", "260 a\r\n", "260.0 a\n", "104 a\n", "a\n", "\n", " \n", "  \n", " a\n", "00 \n", "-0 \n", "0\n", "0", "x260 a\n", "２60 a\n", "18446744073709551876 a\n", "4294967556 a\n"} {
		recovers(text, 0)
		recovers("0 \n"+text, 3, "")
	}
	for _, text := range oddTexts() {
		recovers(text, 0)
	}
}

func TestRunJournal(t *testing.T) {
	d := impl.NewDesk()
	lines := []string{"thin 3f800000", "what", "line none", "here 3e800000,00000000", "", "line"}
	journal, _ := impl.JournalOf(lines)
	want := desk(at(0.25, 0), d.Places, []complex64{0, 2}, d.Grid)
	saidTo(t, "RunJournal", saidTwo(impl.RunJournal(d, journal)), want, int64(6))
	saidTo(t, "RunJournal of what is behind the first line", saidTwo(impl.RunJournal(d, journal[len("12345 thin 3f800000\n")-1:])), d, int64(0))
	saidTo(t, "RunJournal without the last newline", saidTwo(impl.RunJournal(d, journal[:len(journal)-1])), want, int64(5))
	for i, d := range someDesks() {
		saidTo(t, fmt.Sprint("RunJournal of an empty text at the desk ", i), saidTwo(impl.RunJournal(d, "")), d, int64(0))
		saidTo(t, fmt.Sprint("RunJournal of another text at the desk ", i), saidTwo(impl.RunJournal(d, "here 3e800000,00000000\n")), d, int64(0))
	}
	for i, d := range wrongDesks() {
		for _, text := range []string{"", "x", journal} {
			failing(t, fmt.Sprintf("RunJournal %q at the wrong desk %d", text, i), saidTwo(impl.RunJournal(d, text)))
		}
	}
}
