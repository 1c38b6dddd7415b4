package tests

import (
	"fmt"
	"math"
	"slices"
	"testing"

	"loop.example/g01341/impl"
)

// exactArea is the area of a triangle by its solid angle, where the whole ball has 2.
func exactArea(a, b, c impl.Place) float64 {
	u, v, w := exactWay(a), exactWay(b), exactWay(c)
	return math.Atan2(exactDot(u, exactCross(v, w)), 1+exactDot(u, v)+exactDot(v, w)+exactDot(w, u)) / math.Pi
}

func TestAreasOfTriangles(t *testing.T) {
	list := ordinaryPlaces()
	for i, a := range list {
		b, c := list[(i*7+3)%64], list[(i*11+5)%64]
		rest := 1 + exactDot(exactWay(a), exactWay(b)) + exactDot(exactWay(b), exactWay(c)) + exactDot(exactWay(c), exactWay(a))
		if math.Abs(rest) < 0.01 {
			continue
		}
		got, ok := impl.AreaOfTriangle(a, b, c)
		if want := exactArea(a, b, c); !ok || math.Abs(math.Remainder(float64(got)-want, 2)) > 1e-5 {
			t.Errorf("AreaOfTriangle %v, %v and %v: got %v, want %v, nearly", a, b, c, got, want)
		}
	}
	a, b, pole := at(0, 0), at(0, 0.25), at(0.25, 0)
	succeeds(t, "AreaOfTriangle to the left", float32(0.25))(impl.AreaOfTriangle(a, b, pole))
	succeeds(t, "AreaOfTriangle to the right", float32(-0.25))(impl.AreaOfTriangle(b, a, pole))
	succeeds(t, "AreaOfTriangle of one place", float32(0))(impl.AreaOfTriangle(pole, pole, pole))
}

func TestAreasOfPlaces(t *testing.T) {
	square := []impl.Place{at(0, 0), at(0, 0.1), at(0.1, 0.1), at(0.1, 0)}
	got, ok := impl.AreaOfPlaces(square)
	want := exactArea(square[0], square[1], square[2]) + exactArea(square[0], square[2], square[3])
	if !ok || math.Abs(float64(got)-want) > 1e-6 {
		t.Errorf("AreaOfPlaces: got %v, want %v, nearly", got, want)
	}
	slices.Reverse(square)
	if back, _ := impl.AreaOfPlaces(square); math.Abs(float64(back+got)) > 1e-6 {
		t.Errorf("AreaOfPlaces, turned around: got %v, want %v, nearly", back, -got)
	}
	half := []impl.Place{at(0, 0), at(0, 0.25), at(0, -0.5), at(0, -0.25)}
	if got, ok := impl.AreaOfPlaces(append(half[:2:2], at(0.25, 0))); !ok || got != 0.25 {
		t.Errorf("AreaOfPlaces of an eighth of the ball: got %v", got)
	}
	succeeds(t, "AreaOfPlaces of one place", float32(0))(impl.AreaOfPlaces(half[:1]))
	succeeds(t, "AreaOfPlaces of two places", float32(0))(impl.AreaOfPlaces(half[:2]))
	// The sum begins with +0, also where the only triangle has -0.
	narrow := []impl.Place{at(0, 0), at(0.01, num(1)), at(0.02, 0)}
	if one, _ := impl.AreaOfTriangle(at(0, 0), at(0.02, 0), at(0.01, num(1))); tell(one) != tell(minusZero()) {
		t.Errorf("AreaOfTriangle of a narrow one: got %v", one)
	}
	succeeds(t, "AreaOfPlaces of a narrow triangle", float32(0))(impl.AreaOfPlaces([]impl.Place{narrow[0], narrow[2], narrow[1]}))
}

func TestLongOfPlaces(t *testing.T) {
	list := []impl.Place{at(0, 0), at(0, 0.25), at(0.25, 0), at(-0.25, 0.1)}
	for n, want := range map[int][2]float32{1: {0, 0}, 2: {0.25, 0.5}, 3: {0.5, 0.75}, 4: {1, 1.25}} {
		succeeds(t, fmt.Sprintf("LongOfPlaces of %d places", n), want[0])(impl.LongOfPlaces(list[:n], false))
		succeeds(t, fmt.Sprintf("LongOfPlaces of %d places, closed", n), want[1])(impl.LongOfPlaces(list[:n], true))
	}
	sum := float32(0)
	all := allPlaces()[40:104]
	for i := range all[1:] {
		apart, _ := impl.ApartOf(all[i], all[i+1])
		sum += apart
	}
	succeeds(t, "LongOfPlaces of 64 places", sum)(impl.LongOfPlaces(all, false))
	last, _ := impl.ApartOf(all[63], all[0])
	succeeds(t, "LongOfPlaces of 64 places, closed", sum+last)(impl.LongOfPlaces(all, true))
}

func TestBoxOfPlaces(t *testing.T) {
	box := func(list ...impl.Place) string { return saidTwo(impl.BoxOfPlaces(list)) }
	expect(t, "BoxOfPlaces", box(at(0.1, -0.2), at(-0.2, 0.3), at(0, 0)), words(true, at(-0.2, -0.2), at(0.1, 0.3)))
	expect(t, "BoxOfPlaces, the other way round", box(at(0, 0), at(-0.2, 0.3), at(0.1, -0.2)), words(true, at(-0.2, -0.2), at(0.1, 0.3)))
	expect(t, "BoxOfPlaces of one place", box(at(0.25, -0.5)), words(true, at(0.25, -0.5), at(0.25, -0.5)))
	// Zeros are equal, and the first one counts.
	for _, zeros := range [][2]float32{{0, minusZero()}, {minusZero(), 0}} {
		first, second := at(zeros[0], zeros[1]), at(zeros[1], zeros[0])
		expect(t, "BoxOfPlaces of zeros", box(first, second), words(true, first, first))
		expect(t, "BoxOfPlaces with zeros as least numbers", box(at(0.1, 0.1), first, second), words(true, first, at(0.1, 0.1)))
		expect(t, "BoxOfPlaces with zeros as greatest numbers", box(at(-0.1, -0.1), first, second), words(true, at(-0.1, -0.1), first))
	}
}

func TestMeanPlace(t *testing.T) {
	pole := at(0.25, 0)
	succeeds(t, "MeanPlace of the pole", pole)(impl.MeanPlace([]impl.Place{pole}))
	mean, ok := impl.MeanPlace([]impl.Place{at(0.1, -0.45), at(0.1, 0.45), at(-0.1, -0.45), at(-0.1, 0.45)})
	if !ok || exactApart(mean, at(0, -0.5)) > 1e-6 {
		t.Errorf("MeanPlace around the border: got %v, %v", mean, ok)
	}
	mean, ok = impl.MeanPlace([]impl.Place{at(0, 0), at(0, 0), at(0, 0.25)})
	if want := math.Atan2(1, 2) / (2 * math.Pi); !ok || exactApart(mean, at(0, float32(want))) > 1e-6 {
		t.Errorf("MeanPlace that one place has twice: got %v, %v", mean, ok)
	}
	fails[impl.Place](t, "MeanPlace of opposite places")(impl.MeanPlace([]impl.Place{at(0, 0), at(0, -0.5)}))
}

func TestNearestPlace(t *testing.T) {
	list := ordinaryPlaces()
	for i, p := range list {
		expect(t, fmt.Sprintf("NearestPlace of %v", p), saidTwo(impl.NearestPlace(list, p)), words(true, int64(i), float32(0)))
	}
	for _, p := range edgePlaces() {
		index, apart, ok := impl.NearestPlace(list, p)
		want, _ := impl.ApartOf(list[index], p)
		if !ok || apart != want {
			t.Errorf("NearestPlace of %v: got %v, %v", p, index, apart)
		}
		for i, q := range list {
			if far, _ := impl.ApartOf(q, p); far < apart || far == apart && int64(i) < index {
				t.Errorf("NearestPlace of %v: got %d, but %d is nearer", p, index, i)
			}
		}
	}
	a, b := at(0, 0.25), at(0, -0.25)
	expect(t, "NearestPlace of equal ones", saidTwo(impl.NearestPlace([]impl.Place{b, a, b, a}, at(0, 0))), words(true, int64(0), float32(0.25)))
	expect(t, "NearestPlace of the same ones", saidTwo(impl.NearestPlace([]impl.Place{b, a, a}, a)), words(true, int64(1), float32(0)))
	expect(t, "NearestPlace of one", saidTwo(impl.NearestPlace([]impl.Place{b}, a)), words(true, int64(0), float32(0.5)))
}

func TestListsHaveLimits(t *testing.T) {
	for name, f := range ofPlaces {
		if f.n != 0 {
			continue
		}
		for _, n := range []int{0, 1, 2, 63, 64, 65, 66, 300} {
			var args []float32
			if name == "NearestPlace" {
				args = append(args, 0.1, 0.2)
			}
			for i := range n {
				args = append(args, float32(i%7)/100, float32(i%11)/100)
			}
			if got := callBall(name, args, nil); (got == "fails") != (n < 1 || n > 64) {
				t.Errorf("%s of %d places: got %s", name, n, got)
			}
		}
	}
	fails[float32](t, "AreaOfPlaces of nil")(impl.AreaOfPlaces(nil))
	fails[float32](t, "LongOfPlaces of nil")(impl.LongOfPlaces(nil, true))
	fails[impl.Place](t, "MeanPlace of nil")(impl.MeanPlace(nil))
}
