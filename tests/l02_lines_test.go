package tests

import (
	"fmt"
	"math"
	"slices"
	"testing"

	"loop.example/g01341/impl"
)

func exactCross(a, b [3]float64) [3]float64 {
	return [3]float64{a[1]*b[2] - a[2]*b[1], a[2]*b[0] - a[0]*b[2], a[0]*b[1] - a[1]*b[0]}
}

func exactDot(a, b [3]float64) float64 { return a[0]*b[0] + a[1]*b[1] + a[2]*b[2] }

// exactApart is how far places are apart, in turns, in 64-bit numbers.
func exactApart(a, b impl.Place) float64 {
	v, w := exactWay(a), exactWay(b)
	cross := exactCross(v, w)
	return math.Atan2(math.Sqrt(exactDot(cross, cross)), exactDot(v, w)) / (2 * math.Pi)
}

// turnsBetween is how far turns differ from others, where whole ones don't count.
func turnsBetween(a, b float64) float64 { return math.Abs(math.Remainder(a-b, 1)) }

// isPlain reports whether two places are neither near to each other nor nearly opposite, nor poles.
func isPlain(a, b impl.Place) bool {
	apart := exactApart(a, b)
	return apart > 0.01 && apart < 0.49 && math.Abs(float64(a.North)) < 0.24 && math.Abs(float64(b.North)) < 0.24
}

func eachPair(call func(a, b impl.Place)) {
	list := allPlaces()
	for i, a := range list {
		for _, b := range list[i%3:] {
			call(a, b)
		}
	}
}

func TestApartOf(t *testing.T) {
	eachPair(func(a, b impl.Place) {
		got, ok := impl.ApartOf(a, b)
		if want := exactApart(a, b); !ok || math.Abs(float64(got)-want) > 2e-7 || got < 0 || got > 0.5 {
			t.Errorf("ApartOf %v and %v: got %v, want %v, nearly", a, b, got, want)
		}
		if back, _ := impl.ApartOf(b, a); back != got {
			t.Errorf("ApartOf %v and %v depends on the order", a, b)
		}
	})
	for _, p := range allPlaces() {
		succeeds(t, fmt.Sprintf("ApartOf %v and itself", p), float32(0))(impl.ApartOf(p, p))
		succeeds(t, fmt.Sprintf("ApartOf the pole and the equator at %v", p.East), float32(0.25))(impl.ApartOf(at(0.25, 0.1), at(0, p.East)))
	}
	succeeds(t, "ApartOf poles", float32(0.5))(impl.ApartOf(at(0.25, 0.1), at(-0.25, 0.3)))
	succeeds(t, "ApartOf opposite places", float32(0.5))(impl.ApartOf(at(0, 0), at(0, -0.5)))
}

func TestCourseTo(t *testing.T) {
	eachPair(func(a, b impl.Place) {
		got, ok := impl.CourseTo(a, b)
		if !ok || !(got >= 0 && got <= 1) {
			t.Errorf("CourseTo from %v to %v: got %v, %v", a, b, got, ok)
		}
		n, m, e := 2*math.Pi*float64(a.North), 2*math.Pi*float64(b.North), 2*math.Pi*(float64(b.East)-float64(a.East))
		want := math.Atan2(math.Sin(e)*math.Cos(m), math.Cos(n)*math.Sin(m)-math.Sin(n)*math.Cos(m)*math.Cos(e)) / (2 * math.Pi)
		if isPlain(a, b) && turnsBetween(float64(got), want) > 3e-6 {
			t.Errorf("CourseTo from %v to %v: got %v, want %v, nearly", a, b, got, want)
		}
	})
	courses := map[impl.Place]float32{at(0.1, 0): 0, at(0, 0.1): 0.25, at(-0.1, 0): 0.5, at(0, -0.1): 0.75, at(0.25, 0.3): 0, at(-0.25, 0.3): 0.5, at(0, 0): 0, at(0, num(1)): 0.25}
	for p, want := range courses {
		succeeds(t, fmt.Sprintf("CourseTo %v", p), want)(impl.CourseTo(at(0, 0), p))
	}
	// A turn less a subnormal number is rounded to one, the sine of which is -0.
	succeeds(t, "CourseTo, hardly west", float32(0))(impl.CourseTo(at(0, 0), at(0, -num(1))))
	// Just west of north, the course is a little less than 1, which is rounded.
	succeeds(t, "CourseTo, nearly north", float32(1))(impl.CourseTo(at(0, 0), at(0.1, -1e-10)))
}

func TestGoFromAlongAxes(t *testing.T) {
	middle := at(0, 0)
	goals := []struct {
		course, far float32
		goal        impl.Place
	}{{0, 0.25, at(0.25, 0)}, {0.5, 0.25, at(-0.25, 0)}, {0.25, 0.25, at(0, 0.25)}, {0.75, 0.25, at(0, -0.25)}, {0.25, -0.125, at(0, -0.125)}, {0, 0.125, at(0.125, 0)}, {0.3, 0.5, at(0, -0.5)}, {0.3, 1, middle}, {-0.75, 3.25, at(0, 0.25)}, {0.6, 0, middle}}
	for _, g := range goals {
		got, ok := impl.GoFrom(middle, g.course, g.far)
		if !ok || exactApart(got, g.goal) > 1e-7 {
			t.Errorf("GoFrom the middle, course %v, far %v: got %v, want %v, nearly", g.course, g.far, got, g.goal)
		}
	}
	// From 2 to the power of 52 on, sines and cosines are +0.
	succeeds(t, "GoFrom along a large course", at(0.25, 0))(impl.GoFrom(at(0.25, 0), 1<<60, 0))
	fails[impl.Place](t, "GoFrom that goes too far")(impl.GoFrom(middle, 0.25, 1<<52))
	for _, x := range []float32{float32(math.Inf(1)), float32(math.Inf(-1)), num(0x7fc00000)} {
		fails[impl.Place](t, "GoFrom along no course")(impl.GoFrom(middle, x, 0.25))
		fails[impl.Place](t, "GoFrom, not finitely far")(impl.GoFrom(middle, 0.25, x))
		fails[impl.Place](t, "ShareOfWay with no share")(impl.ShareOfWay(middle, at(0, 0.25), x))
	}
	fails[impl.Place](t, "ShareOfWay that goes too far")(impl.ShareOfWay(middle, at(0, 0.25), 1<<56))
}

func TestMidwayAndShares(t *testing.T) {
	eachPair(func(a, b impl.Place) {
		if !isPlain(a, b) {
			return
		}
		half := exactApart(a, b) / 2
		middle, ok := impl.MidwayOf(a, b)
		if !ok || math.Abs(exactApart(a, middle)-half) > 5e-6 || math.Abs(exactApart(b, middle)-half) > 5e-6 {
			t.Errorf("MidwayOf %v and %v: got %v", a, b, middle)
		}
		share, ok := impl.ShareOfWay(a, b, 0.5)
		if !ok || exactApart(share, middle) > 5e-6 {
			t.Errorf("half of the way from %v to %v: got %v, want %v, nearly", a, b, share, middle)
		}
		quarter, ok := impl.ShareOfWay(a, b, 0.25)
		if !ok || math.Abs(exactApart(a, quarter)-half/2) > 5e-6 || math.Abs(exactApart(b, quarter)-half*1.5) > 5e-6 {
			t.Errorf("a quarter of the way from %v to %v: got %v", a, b, quarter)
		}
	})
	fails[impl.Place](t, "MidwayOf opposite places")(impl.MidwayOf(at(0, 0), at(0, -0.5)))
	fails[impl.Place](t, "MidwayOf poles")(impl.MidwayOf(at(0.25, 0), at(-0.25, -0.5)))
	succeeds(t, "MidwayOf a place and itself", at(0.25, 0))(impl.MidwayOf(at(0.25, 0), at(0.25, 0)))
}

func TestOppositePlaces(t *testing.T) {
	opposites := [][2]impl.Place{{at(0.1, 0.25), at(-0.1, -0.25)}, {at(0, 0), at(minusZero(), -0.5)}, {at(minusZero(), -0.5), at(0, 0)}, {at(0.25, minusZero()), at(-0.25, -0.5)}, {at(-0.25, -0.25), at(0.25, 0.25)}, {at(num(1), below(0.5)), at(-num(1), 0)}, {at(0, below(-0.5)), at(minusZero(), 0x1p-25)}, {at(0, -num(1)), at(minusZero(), -0.5)}}
	for _, pair := range opposites {
		succeeds(t, fmt.Sprintf("OppositeOf %v", pair[0]), pair[1])(impl.OppositeOf(pair[0]))
	}
	for _, p := range allPlaces() {
		opposite, ok := impl.OppositeOf(p)
		if !ok || !impl.ValidPlace(opposite) || exactApart(p, opposite) < 0.4999999 {
			t.Errorf("OppositeOf %v: got %v, %v", p, opposite, ok)
		}
		if apart, _ := impl.ApartOf(p, opposite); apart < 0.4999998 {
			t.Errorf("%v and its opposite place are %v apart", p, apart)
		}
	}
}

func TestSidesOfLines(t *testing.T) {
	list := slices.Concat(ordinaryPlaces()[:40], edgePlaces()[:16])
	eachPair(func(a, b impl.Place) {
		cross := exactCross(exactWay(a), exactWay(b))
		long := math.Sqrt(exactDot(cross, cross))
		for _, p := range list {
			side, ok := impl.SideOf(a, b, p)
			want := exactDot(cross, exactWay(p))
			if !ok || math.Abs(float64(side)-want) > 1e-6 {
				t.Fatalf("SideOf %v, %v and %v: got %v, want %v, nearly", a, b, p, side, want)
			}
			off, ok := impl.OffWay(a, b, p)
			far := math.Asin(max(-1, min(1, want/long))) / (2 * math.Pi)
			if isPlain(a, b) && (!ok || math.Abs(float64(off)-far) > 1e-4) {
				t.Fatalf("OffWay %v, %v and %v: got %v, want %v, nearly", a, b, p, off, far)
			}
		}
	})
	a, b, pole := at(0, 0), at(0, 0.25), at(0.25, 0)
	succeeds(t, "OffWay on the left", float32(0.25))(impl.OffWay(a, b, pole))
	succeeds(t, "OffWay on the right", float32(-0.25))(impl.OffWay(b, a, pole))
	succeeds(t, "OffWay on the line", float32(0))(impl.OffWay(a, b, at(0, 0.1)))
	succeeds(t, "SideOf on the right", float32(-1))(impl.SideOf(b, a, pole))
	succeeds(t, "SideOf of no line", float32(0))(impl.SideOf(a, a, pole))
	fails[float32](t, "OffWay of no line")(impl.OffWay(a, a, pole))
	fails[float32](t, "OffWay of opposite places")(impl.OffWay(a, at(0, -0.5), pole))
	fails[float32](t, "OffWay of a line with a long of 0")(impl.OffWay(a, at(0, 1e-30), pole))
}

func TestMeetsOfLines(t *testing.T) {
	for i, a := range ordinaryPlaces() {
		list := ordinaryPlaces()
		b, c, d := list[(i*7+3)%64], list[(i*11+5)%64], list[(i*13+20)%64]
		first, second := exactCross(exactWay(a), exactWay(b)), exactCross(exactWay(c), exactWay(d))
		meet := exactCross(first, second)
		if !isPlain(a, b) || !isPlain(c, d) || exactDot(meet, meet) < 0.001 {
			continue
		}
		got, ok := impl.MeetOfWays(a, b, c, d)
		way := exactWay(got)
		if !ok || math.Abs(exactDot(way, first)) > 1e-5 || math.Abs(exactDot(way, second)) > 1e-5 {
			t.Errorf("MeetOfWays %v, %v, %v and %v: %v is not on both lines", a, b, c, d, got)
		}
		if exactDot(way, exactWay(a))+exactDot(way, exactWay(b)) < -1e-5 {
			t.Errorf("MeetOfWays %v, %v, %v and %v: %v is on the other side", a, b, c, d, got)
		}
	}
	a, b, pole := at(0, 0), at(0, 0.25), at(0.25, 0)
	for _, lines := range [][4]impl.Place{{a, b, pole, at(0.1, 0.125)}, {b, a, pole, at(0.1, 0.125)}, {a, b, at(0.1, 0.125), pole}, {a, b, pole, at(0.1, -0.375)}} {
		got, ok := impl.MeetOfWays(lines[0], lines[1], lines[2], lines[3])
		if !ok || exactApart(got, at(0, 0.125)) > 1e-7 {
			t.Errorf("MeetOfWays %v: got %v, %v", lines, got, ok)
		}
	}
	fails[impl.Place](t, "MeetOfWays of one line")(impl.MeetOfWays(a, b, b, a))
	fails[impl.Place](t, "MeetOfWays of no line")(impl.MeetOfWays(a, a, a, pole))
}

func TestInvalidPlacesFail(t *testing.T) {
	for name, f := range ofPlaces {
		n := f.n
		if n == 0 {
			n = 8
		}
		for i := 0; i+1 < n; i += 2 {
			for _, wrong := range wrongPlaces() {
				args := []float32{0.1, 0.2, -0.1, 0.3, 0.05, -0.2, 0.2, 0.4}[:n]
				args = slices.Clone(args)
				if name == "GoFrom" && i == 2 {
					continue
				}
				args[i], args[i+1] = wrong.North, wrong.East
				if got := callBall(name, args, nil); got != "fails" {
					t.Errorf("%s with the place %d wrong, %v: got %s", name, i/2, wrong, got)
				}
			}
		}
	}
}
