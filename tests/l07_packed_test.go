package tests

import (
	"fmt"
	"math"
	"slices"
	"strings"
	"testing"

	"loop.example/g01341/impl"
)

func TestArePacked(t *testing.T) {
	for _, p := range []impl.Place{at(0, 0), at(0.25, -0.5), at(-0.25, -0.5), at(0.125, 0.25), stepped(1, -1), stepped(4194304, 8388607), stepped(-4194303, -8388607)} {
		expect(t, fmt.Sprintf("ArePacked %v", p), impl.ArePacked([]impl.Place{p}), true)
	}
	for _, p := range slices.Concat(unpackedPlaces(), wrongPlaces()) {
		for _, list := range [][]impl.Place{{p}, {at(0, 0), p}, {p, at(0, 0)}, {at(0, 0), p, at(0, 0)}} {
			expect(t, fmt.Sprintf("ArePacked %v", list), impl.ArePacked(list), false)
			fails[string](t, fmt.Sprintf("PackPlaces %v", list))(impl.PackPlaces(list))
		}
	}
	for n, want := range map[int]bool{0: false, 1: true, 64: true, 65: false, 1000: false} {
		list := make([]impl.Place, n)
		expect(t, fmt.Sprint("ArePacked of places ", n), impl.ArePacked(list), want)
		if want {
			succeeds(t, fmt.Sprint("PackPlaces of places ", n), strings.Repeat("\x00\x00", n))(impl.PackPlaces(list))
		} else {
			fails[string](t, fmt.Sprint("PackPlaces of places ", n))(impl.PackPlaces(list))
		}
	}
	expect(t, "ArePacked of nil", impl.ArePacked(nil), false)
}

// packs checks which bytes places have, and that these lead back.
func packs(t *testing.T, bytes string, list ...impl.Place) {
	t.Helper()
	saidTo(t, fmt.Sprintf("PackPlaces %v", list), said(impl.PackPlaces(list)), bytes)
	saidTo(t, fmt.Sprintf("UnpackPlaces %x", bytes), said(impl.UnpackPlaces(bytes)), list)
}

func TestPackPlaces(t *testing.T) {
	packs(t, "\x00\x00", at(0, 0))
	packs(t, "\x01\x80\x01", stepped(-1, 64))
	packs(t, "\x02\x7f", stepped(1, -64))
	packs(t, "\x7e\x81\x01", stepped(63, -65))
	packs(t, "\x00\x02\x00\x00\x01\x03", stepped(0, 1), stepped(0, 1), stepped(-1, -1))
	packs(t, "\xfe\x7f\xff\x7f", stepped(8191, -8192))
	packs(t, "\x80\x80\x01\x81\x80\x01", stepped(8192, -8193))
	packs(t, "\xfe\xff\x7f\xff\xff\x7f", stepped(1048575, -1048576))
	packs(t, "\x80\x80\x80\x01\x81\x80\x80\x01", stepped(1048576, -1048577))
	// The greatest differences of all, in both directions.
	packs(t, "\xff\xff\xff\x03\xff\xff\xff\x07\x80\x80\x80\x08\xfe\xff\xff\x0f\xff\xff\xff\x07\xfd\xff\xff\x0f",
		stepped(-4194304, -8388608), stepped(4194304, 8388607), stepped(-4194304, -8388608))
	// Both differences are told from the place before, not from the first one.
	packs(t, "\x14\x28\x02\x04\x02\x04", stepped(10, 20), stepped(11, 22), stepped(12, 24))
}

// Each number of steps has just one text of bytes, which leads back, for each number of bytes.
func TestPackedDifferences(t *testing.T) {
	for digits := range 23 {
		for _, d := range []int64{1<<digits - 1, 1 << digits, 1<<digits + 1} {
			for _, east := range []int64{d, -d, -d - 1} {
				north := east % 4194305
				list := []impl.Place{stepped(north, east), stepped(0, 0), stepped(-north, east)}
				bytes, ok := impl.PackPlaces(list)
				want := packedByHand(north) + packedByHand(east) + packedByHand(-north) + packedByHand(-east) + packedByHand(-north) + packedByHand(east)
				if !ok || bytes != want {
					t.Errorf("PackPlaces %v: got %x, want %x", list, bytes, want)
				}
				saidTo(t, fmt.Sprintf("UnpackPlaces %x", want), said(impl.UnpackPlaces(want)), list)
			}
		}
	}
}

// packedByHand returns the bytes of a difference by how many of them there are.
func packedByHand(d int64) string {
	n := 2 * d
	if d < 0 {
		n = -2*d - 1
	}
	switch low := func(i int) byte { return byte(n >> (7 * i) & 127) }; {
	case n < 1<<7:
		return string([]byte{low(0)})
	case n < 1<<14:
		return string([]byte{low(0) | 128, low(1)})
	case n < 1<<21:
		return string([]byte{low(0) | 128, low(1) | 128, low(2)})
	default:
		return string([]byte{low(0) | 128, low(1) | 128, low(2) | 128, low(3)})
	}
}

func TestUnpackPlacesFails(t *testing.T) {
	for _, s := range []string{
		"", "\x00", "\x80", "\x80\x00", "\x00\x80", "\x00\x00\x00", "\x00\x00\x80", "\x00\x00\x00\x80",
		// In more bytes than needed.
		"\x80\x00\x00", "\x00\x80\x00", "\x80\x00\x80\x00", "\x81\x00\x00", "\x00\x82\x80\x00", "\xff\x00\x00", "\x00\x00\x80\x00\x00", "\x00\x00\x00\x80\x80\x80\x80\x00",
		"\x80\x80\x80\x80\x00\x00", "\x80\x80\x80\x80\x80\x80\x80\x80\x80\x00\x00", strings.Repeat("\x80", 20) + "\x00\x00", "\x00" + strings.Repeat("\x80", 100) + "\x00",
		// Beyond the poles, and beyond the border of the east.
		"\x82\x80\x80\x04\x00", "\x81\x80\x80\x04\x00", "\x00\x80\x80\x80\x08", "\x00\x81\x80\x80\x08", "\x00\x00\x82\x80\x80\x04\x00",
		"\x80\x80\x80\x04\x00\x02\x00", "\xff\xff\xff\x03\x00\x01\x00", "\x00\xfe\xff\xff\x07\x00\x02", "\x00\xff\xff\xff\x07\x00\x01",
		// Out of the ball and back again.
		"\x82\x80\x80\x04\x00\x81\x80\x80\x04\x00",
		// More digits than an integer has, which leave a small number behind.
		"\x80\x80\x80\x80\x80\x80\x80\x80\x80\x02\x00", "\x82\x80\x80\x80\x80\x80\x80\x80\x80\x80\x02\x00", "\xff\xff\xff\xff\xff\xff\xff\xff\xff\x01\x00", "\xff\xff\xff\xff\xff\xff\xff\xff\xff\x00\x00",
		"\xff\xff\xff\xff\xff\xff\xff\xff\x7f\x00", "\xfe\xff\xff\xff\xff\xff\xff\xff\xff\x01\x02\x00", "\xff\xff\xff\xff\x0f\x00", "\x80\x80\x80\x80\x10\x00",
		strings.Repeat("\xff", 1000), strings.Repeat("\x80", 1000), strings.Repeat("\x00", 1000), strings.Repeat("\x00", 1000) + "\x80",
	} {
		fails[[]impl.Place](t, fmt.Sprintf("UnpackPlaces %x", s))(impl.UnpackPlaces(s))
	}
	// The limits that are passed above are reached.
	packs(t, "\x80\x80\x80\x04\x00", stepped(4194304, 0))
	packs(t, "\xff\xff\xff\x03\x00", stepped(-4194304, 0))
	packs(t, "\x00\xfe\xff\xff\x07", stepped(0, 8388607))
	packs(t, "\x00\xff\xff\xff\x07", stepped(0, -8388608))
}

func TestUnpackedPlacesHaveLimits(t *testing.T) {
	for n := 1; n <= 64; n++ {
		saidTo(t, fmt.Sprint("UnpackPlaces of places ", n), said(impl.UnpackPlaces(strings.Repeat("\x00\x00", n))), make([]impl.Place, n))
	}
	for _, n := range []int{65, 66, 128, 5000} {
		fails[[]impl.Place](t, fmt.Sprint("UnpackPlaces of places ", n))(impl.UnpackPlaces(strings.Repeat("\x00\x00", n)))
	}
	fails[[]impl.Place](t, "UnpackPlaces of 64 places and a half")(impl.UnpackPlaces(strings.Repeat("\x00", 129)))
	fails[[]impl.Place](t, "UnpackPlaces of 63 places and a half")(impl.UnpackPlaces(strings.Repeat("\x00", 127)))
	// 64 places of the most bytes.
	var list []impl.Place
	for i := range 64 {
		list = append(list, []impl.Place{stepped(-4194304, -8388608), stepped(4194304, 8388607)}[i%2])
	}
	packed, ok := impl.PackPlaces(list)
	if !ok || len(packed) != 512 {
		t.Errorf("PackPlaces of 64 places far apart: got %d bytes", len(packed))
	}
	saidTo(t, "UnpackPlaces of 64 places far apart", said(impl.UnpackPlaces(packed)), list)
	fails[[]impl.Place](t, "UnpackPlaces of 65 places far apart")(impl.UnpackPlaces(packed + "\x00\x00"))
}

// All short texts of bytes either lead to places that lead back to them, or fail.
func TestAllShortBytes(t *testing.T) {
	some := []byte{0, 1, 2, 3, 4, 7, 8, 127, 128, 129, 130, 254, 255}
	texts := []string{""}
	for range 5 {
		var longer []string
		for _, s := range texts {
			list, ok := impl.UnpackPlaces(s)
			packed, also := impl.PackPlaces(list)
			if ok != also || ok && packed != s || !ok && list != nil {
				t.Errorf("UnpackPlaces %x: got %v, %v", s, list, ok)
			}
			if want := readsByHand(s); ok != want {
				t.Errorf("UnpackPlaces %x: got %v, want %v", s, ok, want)
			}
			for _, b := range some {
				longer = append(longer, s+string([]byte{b}))
			}
		}
		texts = longer
	}
}

// readsByHand reports whether a few bytes are those of packed places.
func readsByHand(s string) bool {
	count, behind := 0, 0
	for i := range len(s) {
		behind++
		if s[i] >= 128 {
			continue
		}
		if behind > 1 && s[i] == 0 {
			return false
		}
		count, behind = count+1, 0
	}
	if behind > 0 || count == 0 || count%2 == 1 {
		return false
	}
	return !goesBeyond(s)
}

// goesBeyond reports whether the differences of bytes leave the ball.
func goesBeyond(s string) bool {
	at := [2]int64{}
	n, digits, which := int64(0), 0, 0
	for i := range len(s) {
		n |= int64(s[i]&127) << digits
		digits += 7
		if s[i] >= 128 {
			continue
		}
		d := n / 2
		if n%2 == 1 {
			d = -d - 1
		}
		at[which] += d
		if at[0] < -4194304 || at[0] > 4194304 || at[1] < -8388608 || at[1] > 8388607 {
			return true
		}
		n, digits, which = 0, 0, 1-which
	}
	return false
}

func TestNearPlaces(t *testing.T) {
	list := []impl.Place{at(0, 0.25), at(0, 0), at(0.1, 0), at(0, -0.25), at(0, -0.5), at(0, 0), at(0.25, 0)}
	for count := range int64(8) {
		saidTo(t, fmt.Sprint("NearPlaces, count ", count), said(impl.NearPlaces(list, at(0, 0), count)), []int64{1, 5, 2, 0, 3, 6, 4}[:count])
	}
	saidTo(t, "NearPlaces to the pole", said(impl.NearPlaces(list, at(0.25, 0.3), 7)), []int64{6, 2, 0, 1, 3, 4, 5})
	saidTo(t, "NearPlaces beyond the border of the east", said(impl.NearPlaces([]impl.Place{at(0, 0.3), at(0, -0.49), at(0, 0.4)}, at(0, 0.49), 3)), []int64{1, 2, 0})
	saidTo(t, "NearPlaces of equal places", said(impl.NearPlaces(make([]impl.Place, 64), at(0.1, 0.2), 64)), countUp(64))
	saidTo(t, "NearPlaces of some equal places", said(impl.NearPlaces(make([]impl.Place, 64), at(0.1, 0.2), 63)), countUp(63))
	for _, count := range []int64{-1, 8, 64, 1 << 32, math.MaxInt64, math.MinInt64} {
		failing(t, fmt.Sprint("NearPlaces, count ", count), said(impl.NearPlaces(list, at(0, 0), count)))
	}
	failing(t, "NearPlaces of none", said(impl.NearPlaces(nil, at(0, 0), 0)))
	failing(t, "NearPlaces of 65", said(impl.NearPlaces(make([]impl.Place, 65), at(0, 0), 0)))
	for _, p := range wrongPlaces() {
		failing(t, fmt.Sprintf("NearPlaces to %v", p), said(impl.NearPlaces(list, p, 3)))
		failing(t, fmt.Sprintf("NearPlaces to %v, none", p), said(impl.NearPlaces(list, p, 0)))
		failing(t, fmt.Sprintf("NearPlaces with %v", p), said(impl.NearPlaces(append(list[:6:6], p), at(0, 0), 1)))
	}
}

func TestNearPlacesAreOrdered(t *testing.T) {
	for i, p := range allPlaces() {
		list := append(spread(40), allPlaces()[i%60:i%60+20]...)
		apart := func(k int64) float32 {
			far, _ := impl.ApartOf(list[k], p)
			return far
		}
		want := countUp(60)
		slices.SortStableFunc(want, func(a, b int64) int {
			switch {
			case apart(a) < apart(b):
				return -1
			case apart(a) > apart(b):
				return 1
			}
			return 0
		})
		for _, count := range []int64{0, 1, 2, 30, 59, 60} {
			saidTo(t, fmt.Sprintf("NearPlaces %v, count %d", p, count), said(impl.NearPlaces(list, p, count)), want[:count])
		}
		// The first one is what chapter 2 tells.
		first, _, _ := impl.NearestPlace(list, p)
		expect(t, fmt.Sprintf("the nearest place to %v", p), first, want[0])
	}
}
