package tests

import (
	"fmt"
	"testing"

	"loop.example/g01341/impl"
)

func TestValidDesk(t *testing.T) {
	for i, d := range someDesks() {
		expect(t, fmt.Sprint("ValidDesk of the desk ", i), impl.ValidDesk(d), true)
	}
	for i, d := range wrongDesks() {
		expect(t, fmt.Sprint("ValidDesk of the wrong desk ", i), impl.ValidDesk(d), false)
	}
	good := impl.NewDesk()
	// The limits of the lists are reached exactly.
	expect(t, "ValidDesk with MaxPlaces", impl.ValidDesk(desk(good.Here, make([]impl.Place, 64), good.Line, good.Grid)), true)
	expect(t, "ValidDesk with MaxPoints", impl.ValidDesk(desk(good.Here, good.Places, make([]complex64, 128), good.Grid)), true)
	expect(t, "ValidDesk with MaxGrid", impl.ValidDesk(desk(good.Here, good.Places, good.Line, level(16, 16, 1))), true)
}

func TestSameDesk(t *testing.T) {
	same := func(want bool, a, b impl.Desk) {
		t.Helper()
		expect(t, fmt.Sprintf("SameDesk %v, %v", a, b), impl.SameDesk(a, b), want)
		expect(t, fmt.Sprintf("SameDesk %v, %v", b, a), impl.SameDesk(b, a), want)
	}
	good := impl.NewDesk()
	none := num(0x7fc00000)
	same(true, good, impl.NewDesk())
	same(true, impl.Desk{}, impl.Desk{})
	same(true, impl.Desk{}, desk(at(0, 0), []impl.Place{}, []complex64{}, ground(0, 0)))
	same(false, good, impl.Desk{})
	for _, p := range []impl.Place{at(minusZero(), 0), at(0, minusZero()), at(num(1), 0), at(0, 0.25), at(none, 0)} {
		same(false, good, desk(p, good.Places, good.Line, good.Grid))
		same(false, good, desk(good.Here, []impl.Place{p, good.Places[1], good.Places[2]}, good.Line, good.Grid))
		same(true, desk(p, good.Places, good.Line, good.Grid), desk(p, good.Places, good.Line, good.Grid))
	}
	same(false, good, desk(good.Here, good.Places[:2], good.Line, good.Grid))
	same(false, good, desk(good.Here, turned(good.Places), good.Line, good.Grid))
	same(false, good, desk(good.Here, nil, good.Line, good.Grid))
	for _, z := range []complex64{complex(minusZero(), 0), complex(0, minusZero()), 1, 1i, complex(none, 0)} {
		same(false, good, desk(good.Here, good.Places, []complex64{z, good.Line[1], good.Line[2]}, good.Grid))
	}
	same(false, good, desk(good.Here, good.Places, good.Line[1:], good.Grid))
	same(false, good, desk(good.Here, good.Places, turned(good.Line), good.Grid))
	same(false, good, desk(good.Here, good.Places, nil, good.Grid))
	for i := range int64(9) {
		same(false, good, desk(good.Here, good.Places, good.Line, withHeight(good.Grid, i, none)))
	}
	same(false, good, desk(good.Here, good.Places, good.Line, ground(9, 1, good.Grid.Heights...)))
	same(false, desk(good.Here, good.Places, good.Line, level(2, 2, 0)), desk(good.Here, good.Places, good.Line, level(2, 2, minusZero())))
	same(false, desk(good.Here, good.Places, good.Line, level(2, 3, 0)), desk(good.Here, good.Places, good.Line, level(3, 2, 0)))
	// All not-a-numbers are the same.
	wrong := func(bits uint32) impl.Desk {
		return desk(at(num(bits), 9), []impl.Place{at(9, num(bits))}, []complex64{complex(0, num(bits))}, ground(7, 0, num(bits)))
	}
	same(true, wrong(0x7fc00000), wrong(0xffffffff))
	same(false, wrong(0x7fc00000), wrong(0x7f800000))
	list := append(someDesks(), wrongDesks()...)
	for i, a := range list {
		for k, b := range list {
			if got, want := impl.SameDesk(a, b), words(true, a) == words(true, b); got != want {
				t.Errorf("SameDesk of the desks %d and %d: got %v, want %v", i, k, got, want)
			}
		}
	}
}

func TestNewDesk(t *testing.T) {
	// The places at the corners of a square are as far from its middle as the root of 2.
	corner := num(0x40257d86)
	cone := ground(3, 3, corner, 3, corner, 3, 4, 3, corner, 3, corner)
	want := desk(at(0, 0), []impl.Place{at(0, 0), at(0, 0.25), at(0.25, 0)}, []complex64{0, 1 + 0.125i, 2}, cone)
	got := impl.NewDesk()
	if !impl.SameDesk(got, want) || !impl.ValidDesk(got) {
		t.Errorf("NewDesk: got %s, want %s", words(true, got), words(true, want))
	}
	outputs(t, got, "peaks", "4")
	outputs(t, got, "apart 1", "3e800000")
	becomes(t, got, "thin 3f800000", desk(want.Here, want.Places, []complex64{0, 2}, want.Grid), "2")
}
