package tests

import (
	"fmt"
	"math"
	"testing"

	"loop.example/g01341/impl"
)

// Promise 3: going the course to a place, as far as it is, leads there, nearly.
func TestCoursesLeadToTheirPlaces(t *testing.T) {
	eachPair(func(a, b impl.Place) {
		course, _ := impl.CourseTo(a, b)
		apart, _ := impl.ApartOf(a, b)
		got, ok := impl.GoFrom(a, course, apart)
		if !ok || exactApart(got, b) > 1e-6 {
			t.Errorf("the course from %v to %v leads to %v, %v", a, b, got, ok)
		}
		if end, ok := impl.ShareOfWay(a, b, 1); !ok || end != got {
			t.Errorf("the whole way from %v to %v leads to %v, %v", a, b, end, ok)
		}
		if start, ok := impl.ShareOfWay(a, b, 0); !ok || exactApart(start, a) > 1e-7 {
			t.Errorf("nothing of the way from %v to %v leads to %v, %v", a, b, start, ok)
		}
	})
}

// Promise 3: a place where a course leads is as far as told, and in the direction of the course, nearly.
func TestPlacesLieAlongTheirCourses(t *testing.T) {
	for _, p := range allPlaces() {
		for i := range 16 {
			course, far := float32(i)/16, float32(i+1)/40
			got, ok := impl.GoFrom(p, course, far)
			if !ok || math.Abs(exactApart(p, got)-float64(far)) > 1e-6 {
				t.Errorf("GoFrom %v, course %v: %v is not %v away", p, course, got, far)
			}
			back, _ := impl.CourseTo(p, got)
			// Next to a pole, only the course and the east together tell a direction.
			if isPlain(p, got) && turnsBetween(float64(back), float64(course)) > 2e-5 {
				t.Errorf("GoFrom %v, course %v: %v has the course %v", p, course, got, back)
			}
		}
	}
}

// Promise 3: small steps lead back to the same steps, exactly.
func TestStepsLeadBack(t *testing.T) {
	norths := []int64{-4194304, -4194303, -1, 0, 1, 2, 77, 4194303, 4194304}
	easts := []int64{-8388608, -8388607, -1, 0, 1, 3, 99, 8388606, 8388607}
	for i := int64(-4194304); i < 4194304; i += 39999 {
		norths, easts = append(norths, i), append(easts, i*2+1)
	}
	for _, north := range norths {
		for _, east := range easts {
			p, ok := impl.PlaceOfSteps(north, east)
			if !ok || p != at(float32(float64(north)/16777216), float32(float64(east)/16777216)) {
				t.Errorf("PlaceOfSteps of %d and %d: got %v, %v", north, east, p, ok)
			}
			if n, e, ok := impl.StepsOf(p); !ok || n != north || e != east {
				t.Errorf("the steps %d and %d became %d and %d", north, east, n, e)
			}
		}
	}
}

// Promise 3: the place of the steps of a place is not farther from it than half a step each.
func TestStepsAreTheNearestOnes(t *testing.T) {
	for _, p := range allPlaces() {
		north, east, ok := impl.StepsOf(p)
		back, also := impl.PlaceOfSteps(north, east)
		if !ok || !also || math.Abs(float64(back.North)-float64(p.North)) > 0x1p-25 || turnsBetween(float64(back.East), float64(p.East)) > 0x1p-25 {
			t.Errorf("%v became %v by the steps %d and %d", p, back, north, east)
		}
	}
	const step = float32(0x1p-24)
	cases := []struct {
		p           impl.Place
		north, east int64
	}{
		{at(0.25, -0.5), 4194304, -8388608},
		{at(-0.25, below(0.5)), -4194304, -8388608},
		{at(below(0.25), below(below(0.5))), 4194304, 8388607},
		{at(below(-0.25), below(-0.5)), -4194304, -8388607},
		{at(step/2, -step/2), 1, 0},
		{at(-step/2, step/2), 0, 1},
		{at(below(step/2), above(-step/2)), 0, -1},
		{at(above(-step/2), below(step/2)), -1, 0},
		{at(1.5*step, -1.5*step), 2, -1},
		{at(num(1), -num(1)), 0, 0},
		{at(minusZero(), 0), 0, 0},
		{at(0.125, 0.375), 2097152, 6291456},
	}
	for _, c := range cases {
		expect(t, fmt.Sprintf("StepsOf %v", c.p), saidTwo(impl.StepsOf(c.p)), words(true, c.north, c.east))
	}
}

func TestStepsHaveLimits(t *testing.T) {
	for _, steps := range [][2]int64{{4194305, 0}, {-4194305, 0}, {0, 8388608}, {0, -8388609}, {math.MaxInt64, 0}, {0, math.MinInt64}, {math.MinInt64, math.MaxInt64}, {1 << 32, 1 << 32}} {
		fails[impl.Place](t, fmt.Sprintf("PlaceOfSteps of %v", steps))(impl.PlaceOfSteps(steps[0], steps[1]))
	}
}
