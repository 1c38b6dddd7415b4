package tests

import (
	"fmt"
	"strings"
	"testing"

	"loop.example/g01341/impl"
)

// scripted checks what a script outputs at a new desk, and that the desk is the same then.
func scripted(t *testing.T, script, want string) {
	t.Helper()
	end, got, ok := impl.RunDesk(impl.NewDesk(), script)
	if !ok || got != want || !impl.SameDesk(end, impl.NewDesk()) {
		t.Errorf("RunDesk %.300q: got %.300q, %v, want %.300q, and the desk %s", script, got, ok, want, words(true, end))
	}
}

func TestRunDesk(t *testing.T) {
	scripted(t, "", "")
	scripted(t, "peaks\n", "4\n")
	scripted(t, "peaks\napart 1\n", "4\n3e800000\n")
	// Empty lines are other lines.
	scripted(t, "\n", "what\n")
	scripted(t, "\n\n", "what\nwhat\n")
	scripted(t, "\npeaks\n\n\nsteps\n\n", "what\n4\nwhat\nwhat\n0,0\nwhat\n")
	scripted(t, " \n", "what\n")
	scripted(t, "here \npeaks\n", "no\n4\n")
	scripted(t, "peaks\r\n", "what\n")
	scripted(t, "peaks\x00\npeaks\n\xff\n", "what\n4\nwhat\n")
	// Lines behind one that is not carried out go on.
	scripted(t, "line none\nlong\nway 0 9\ncross\n", "no\n3f400000\nno\n0\n")

	d := impl.NewDesk()
	end, got, ok := impl.RunDesk(d, "thin 3f800000\nline\nhere 3e800000,00000000\nline none\nhere\n")
	expect(t, "the outputs of RunDesk", got, "2\n0000000000000000,4000000000000000\nok\nno\n3e800000,00000000\n")
	if want := desk(at(0.25, 0), d.Places, []complex64{0, 2}, d.Grid); !ok || !impl.SameDesk(end, want) {
		t.Errorf("RunDesk: got %s, %v, want %s", words(true, end), ok, words(true, want))
	}
	for _, script := range []string{"peaks", "peaks\nsteps", "\npeaks", "peaks\n ", "peaks\n\x00", "x", " ", "\r", "peaks\r", "peaks\nthin 3f800000"} {
		failing(t, fmt.Sprintf("RunDesk %q", script), saidTwo(impl.RunDesk(d, script)))
	}
	for i, d := range wrongDesks() {
		for _, script := range []string{"", "peaks\n", "here 00000000,00000000\n", "peaks"} {
			failing(t, fmt.Sprintf("RunDesk %q at the wrong desk %d", script, i), saidTwo(impl.RunDesk(d, script)))
		}
	}
	for i, d := range someDesks() {
		saidTo(t, fmt.Sprint("RunDesk of an empty script at the desk ", i), saidTwo(impl.RunDesk(d, "")), d, "")
	}
}

// MaxScript is reached exactly, and passed by one byte.
func TestLongScripts(t *testing.T) {
	expect(t, "MaxScript", impl.MaxScript, 16000)
	scripted(t, strings.Repeat("steps\n", 2666)+"up \n", strings.Repeat("0,0\n", 2666)+"what\n")
	scripted(t, strings.Repeat("\n", 16000), strings.Repeat("what\n", 16000))
	scripted(t, strings.Repeat("x", 15999)+"\n", "what\n")
	// Outputs can be longer than MaxScript.
	grid, _ := impl.GridText(impl.NewDesk().Grid)
	scripted(t, strings.Repeat("grid\n", 3200), strings.Repeat(grid+"\n", 3200))
	for _, script := range []string{strings.Repeat("steps\n", 2666) + "down\n", strings.Repeat("\n", 16001), strings.Repeat("x", 16000) + "\n", strings.Repeat("x", 16001), strings.Repeat("x", 16000), strings.Repeat("peaks\n", 100000)} {
		failing(t, fmt.Sprintf("RunDesk of %d bytes", len(script)), saidTwo(impl.RunDesk(impl.NewDesk(), script)))
	}
}

func TestCountOutputs(t *testing.T) {
	counts := func(text string, bad, good int64) {
		t.Helper()
		saidTo(t, fmt.Sprintf("CountOutputs %.300q", text), saidTwo(impl.CountOutputs(text)), bad, good)
	}
	counts("", 0, 0)
	counts("no\n", 1, 0)
	counts("what\n", 1, 0)
	counts("ok\n", 0, 1)
	counts("\n", 0, 1)
	counts("\n\n\n", 0, 3)
	counts("4\nno\n3e800000\nwhat\nwhat\nok\nno\n", 4, 3)
	counts("no\n\nno\n", 2, 1)
	// Only whole lines are no or what.
	counts("none\nnever\nwhats\n no\nno \nNo\nnono\nno,no\nwhat \nno\r\nwha\nn\nnowhat\nno\x00\n", 0, 14)
	counts(strings.Repeat("no\n", 5333)+"\n", 5333, 1)
	counts(strings.Repeat("\n", 16000), 0, 16000)
	counts(strings.Repeat("what\n", 3200), 3200, 0)
	counts(strings.Repeat("x", 15999)+"\n", 0, 1)
	for _, text := range []string{"no", "what", "ok", " ", "no\nno", "\nno", "no\n ", "no\r", "x", "\x00", strings.Repeat("\n", 16001), strings.Repeat("what\n", 3201), strings.Repeat("x", 16000) + "\n", strings.Repeat("x", 16000), strings.Repeat("no\n", 5333) + "no", strings.Repeat("no\n", 5333) + "x\n"} {
		failing(t, fmt.Sprintf("CountOutputs %.300q", text), saidTwo(impl.CountOutputs(text)))
	}
	for _, text := range oddTexts() {
		failing := !strings.HasSuffix(text, "\n") && text != ""
		_, _, ok := impl.CountOutputs(text)
		expect(t, fmt.Sprintf("the success of CountOutputs %q", text), ok, !failing)
	}
}
