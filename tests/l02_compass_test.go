package tests

import (
	"fmt"
	"math"
	"testing"

	"loop.example/g01341/impl"
)

func exactStretch(north float64) float64 {
	return math.Atanh(math.Sin(2*math.Pi*north)) / (2 * math.Pi)
}

func TestStretchNorth(t *testing.T) {
	for i := -240; i <= 240; i++ {
		north := float32(i) / 1000
		got, ok := impl.StretchNorth(north)
		if want := exactStretch(float64(north)); !ok || math.Abs(float64(got)-want) > 2e-5 {
			t.Errorf("StretchNorth of %v: got %v, want %v, nearly", north, got, want)
		}
	}
	succeeds(t, "StretchNorth of 0", float32(0))(impl.StretchNorth(0))
	succeeds(t, "StretchNorth of -0", float32(0))(impl.StretchNorth(minusZero()))
	for _, x := range []float32{0.25, -0.25, above(0.25), above(-0.25), 1, -1, 0.9, -0.9, 7.1, -7.1, float32(math.Inf(1)), float32(math.Inf(-1)), num(0x7fc00000)} {
		fails[float32](t, fmt.Sprintf("StretchNorth of %v", x))(impl.StretchNorth(x))
	}
	// There, the cosine is rounded to zero, or the sine to -1, and the result is not finite.
	fails[float32](t, "StretchNorth next to the pole")(impl.StretchNorth(below(0.25)))
	fails[float32](t, "StretchNorth next to the other pole")(impl.StretchNorth(below(-0.25)))
}

func TestCompassLines(t *testing.T) {
	eachPair(func(a, b impl.Place) {
		if !isPlain(a, b) {
			return
		}
		north, east := float64(b.North)-float64(a.North), math.Remainder(float64(b.East)-float64(a.East), 1)
		want := math.Atan2(east, exactStretch(float64(b.North))-exactStretch(float64(a.North)))
		course, ok := impl.CompassCourse(a, b)
		// Half a turn to the east is half a turn to the west.
		if !ok || turnsBetween(float64(course), want/(2*math.Pi)) > 2e-5 && math.Abs(east) < 0.4999 {
			t.Errorf("CompassCourse from %v to %v: got %v, want %v, nearly", a, b, course, want/(2*math.Pi))
		}
		if !(course >= 0 && course <= 1) {
			t.Errorf("CompassCourse from %v to %v: got %v", a, b, course)
		}
		long, ok := impl.CompassLong(a, b)
		far := math.Abs(north / math.Cos(want))
		if math.Abs(math.Cos(want)) < 0.01 {
			far = math.Abs(east) * math.Cos(2*math.Pi*float64(a.North))
		}
		// Near the limit, a small change of the course is a large one of the quotient.
		if !ok || math.Abs(float64(long)-far) > 0.02*far || float64(long) < 0.99*exactApart(a, b)-1e-5 {
			t.Errorf("CompassLong from %v to %v: got %v, want %v, nearly", a, b, long, far)
		}
	})
}

func TestCompassAlongAxes(t *testing.T) {
	lines := []struct {
		a, b         impl.Place
		course, long float32
	}{
		{at(0, 0), at(0, 0.25), 0.25, 0.25},
		{at(0, 0), at(0, -0.25), 0.75, 0.25},
		{at(0, 0.375), at(0, -0.375), 0.25, 0.25},
		{at(0, -0.375), at(0, 0.375), 0.75, 0.25},
		{at(0, 0), at(0.125, 0), 0, 0.125},
		{at(0.125, 0.3), at(-0.125, 0.3), 0.5, 0.25},
		{at(0, 0), at(0, -0.5), 0.75, 0.5},
		{at(0.1, 0.2), at(0.1, 0.2), 0, 0},
		{at(0, 0), at(minusZero(), minusZero()), 0, 0},
		{at(0.125, num(1)), at(0.125, -num(1)), 0.75, num(1)},
	}
	for _, l := range lines {
		succeeds(t, fmt.Sprintf("CompassCourse from %v to %v", l.a, l.b), l.course)(impl.CompassCourse(l.a, l.b))
		succeeds(t, fmt.Sprintf("CompassLong from %v to %v", l.a, l.b), l.long)(impl.CompassLong(l.a, l.b))
	}
	parallel, ok := impl.CompassLong(at(0.125, -0.1), at(0.125, 0.1))
	if !ok || math.Abs(float64(parallel)-0.2*math.Sqrt(0.5)) > 1e-6 {
		t.Errorf("CompassLong along a parallel: got %v", parallel)
	}
	for _, pole := range []float32{0.25, -0.25, below(0.25), below(-0.25)} {
		for _, pair := range [][2]impl.Place{{at(pole, 0), at(0, 0)}, {at(0, 0), at(pole, 0)}} {
			fails[float32](t, "CompassCourse with a pole")(impl.CompassCourse(pair[0], pair[1]))
			fails[float32](t, "CompassLong with a pole")(impl.CompassLong(pair[0], pair[1]))
		}
	}
}

func TestFlattenedNorths(t *testing.T) {
	for _, flat := range []float32{0, minusZero(), num(1), 1 / 298.257, 0.1, 0.5} {
		heart := (1 - float64(flat)) * (1 - float64(flat))
		for i := -250; i <= 250; i++ {
			north := float32(i) / 1000
			sine, cosine := math.Sincos(2 * math.Pi * float64(north))
			got, ok := impl.FlatNorth(north, flat)
			if want := math.Atan2(heart*sine, cosine) / (2 * math.Pi); !ok || math.Abs(float64(got)-want) > 1e-7 {
				t.Errorf("FlatNorth of %v and %v: got %v, want %v, nearly", north, flat, got, want)
			}
			back, ok := impl.BackNorth(got, flat)
			if !ok || math.Abs(float64(back-north)) > 2e-7 {
				t.Errorf("BackNorth of %v and %v: got %v, want %v, nearly", got, flat, back, north)
			}
		}
		succeeds(t, "FlatNorth of the pole", float32(0.25))(impl.FlatNorth(0.25, flat))
		succeeds(t, "BackNorth of the other pole", float32(-0.25))(impl.BackNorth(-0.25, flat))
		succeeds(t, "FlatNorth of -0", float32(0))(impl.FlatNorth(minusZero(), flat))
	}
}

// exactMeridian adds up many small pieces.
func exactMeridian(north, flat float64) float64 {
	heart, sum := (1-flat)*(1-flat), 0.0
	for i := range 10000 {
		s := math.Sin(2 * math.Pi * north * (float64(i) + 0.5) / 10000)
		sum += heart / math.Pow(1-(1-heart)*s*s, 1.5)
	}
	return sum * north / 10000 * 2 * math.Pi
}

func TestMeridians(t *testing.T) {
	for _, flat := range []float32{0, 1 / 298.257, 0.1, 0.5} {
		for _, north := range []float32{-0.25, -0.1, 0, 0.03, 0.125, 0.25} {
			got, ok := impl.MeridianLong(north, flat, 64)
			if want := exactMeridian(float64(north), float64(flat)); !ok || math.Abs(float64(got)-want) > 2e-4 {
				t.Errorf("MeridianLong of %v and %v: got %v, want %v, nearly", north, flat, got, want)
			}
		}
	}
	succeeds(t, "MeridianLong of 0", float32(0))(impl.MeridianLong(0, 0.1, 7))
	succeeds(t, "MeridianLong of -0", minusZero())(impl.MeridianLong(minusZero(), 0.1, 7))
	for pieces, want := range map[int64]bool{math.MinInt64: false, -1: false, 0: false, 1: true, 2: true, 63: true, 64: true, 65: false, math.MaxInt64: false} {
		if _, ok := impl.MeridianLong(0.1, 0.1, pieces); ok != want {
			t.Errorf("MeridianLong of %d pieces: got %v", pieces, ok)
		}
	}
}

func TestFlattenedLimits(t *testing.T) {
	inf, none := float32(math.Inf(1)), num(0x7fc00000)
	for _, name := range []string{"FlatNorth", "BackNorth", "MeridianLong"} {
		for _, flat := range []float32{0, minusZero(), num(1), 0.5} {
			for _, north := range []float32{-0.25, minusZero(), 0, 0.25} {
				if got := callBall(name, []float32{north, flat}, []int64{3}); got == "fails" {
					t.Errorf("%s of %v and %v fails", name, north, flat)
				}
			}
		}
		for _, flat := range []float32{-num(1), above(0.5), 1, inf, -inf, none} {
			if got := callBall(name, []float32{0.1, flat}, []int64{3}); got != "fails" {
				t.Errorf("%s with a flat of %v: got %s", name, flat, got)
			}
		}
		for _, north := range []float32{above(0.25), above(-0.25), inf, -inf, none} {
			if got := callBall(name, []float32{north, 0.1}, []int64{3}); got != "fails" {
				t.Errorf("%s of %v: got %s", name, north, got)
			}
		}
	}
}
