package tests

import (
	"fmt"
	"math"
	"slices"
	"testing"

	"loop.example/g01341/impl"
)

func TestValidNets(t *testing.T) {
	expect(t, "MaxRoads", impl.MaxRoads, 64)
	for i, n := range someNets() {
		what := fmt.Sprintf(" net %d of %d places and %d roads", i, len(n.Places), len(n.Roads))
		expect(t, "ValidNet"+what, impl.ValidNet(n), true)
		saidTo(t, "PlainNet"+what, said(impl.PlainNet(n.Places, n.Roads)), n)
	}
	expect(t, "ValidNet of 64 roads", impl.ValidNet(net(2, slices.Repeat([]impl.Road{road(0, 1, 1)}, 64)...)), true)
	expect(t, "ValidNet of places that are not packed", impl.ValidNet(impl.Net{Places: edgePlaces()}), true)
	saidTo(t, "PlainNet without roads", said(impl.PlainNet(make([]impl.Place, 64), nil)), impl.Net{Places: make([]impl.Place, 64)})
	expect(t, "ValidNet of roads between the same places of the ball", impl.ValidNet(impl.Net{Places: make([]impl.Place, 2), Roads: []impl.Road{road(0, 1, 1), road(1, 0, 1000000)}}), true)
}

func TestWrongNets(t *testing.T) {
	for i, n := range wrongNets() {
		what := fmt.Sprintf(" wrong net %d, %v", i, n.Roads)
		expect(t, "ValidNet"+what, impl.ValidNet(n), false)
		failing(t, "PlainNet"+what, said(impl.PlainNet(n.Places, n.Roads)))
		failing(t, "RouteLongs"+what, said(impl.RouteLongs(n, 0)))
		failing(t, "RoutePath"+what, saidTwo(impl.RoutePath(n, 0, 0)))
		failing(t, "RoutesShared"+what, said(impl.RoutesShared(n, []int64{0}, 1)))
		failing(t, "RoutesShared, none,"+what, said(impl.RoutesShared(n, nil, 1)))
		failing(t, "ReachOf"+what, said(impl.ReachOf(n, 0, 0)))
		failing(t, "MatchTrack"+what, saidTwo(impl.MatchTrack(n, []impl.Place{at(0, 0)}, 0)))
	}
}

func TestWrongPlacesOfNets(t *testing.T) {
	for _, n := range []impl.Net{net(1), net(3, road(0, 1, 1)), chain(64, 2)} {
		for _, i := range []int64{-1, int64(len(n.Places)), 64, 1 << 32, math.MaxInt64, math.MinInt64} {
			what := fmt.Sprintf(" %d of %d places", i, len(n.Places))
			failing(t, "RouteLongs"+what, said(impl.RouteLongs(n, i)))
			failing(t, "RoutePath from"+what, saidTwo(impl.RoutePath(n, i, 0)))
			failing(t, "RoutePath to"+what, saidTwo(impl.RoutePath(n, 0, i)))
			failing(t, "RoutePath from and to"+what, saidTwo(impl.RoutePath(n, i, i)))
			failing(t, "RoutesShared"+what, said(impl.RoutesShared(n, []int64{i}, 2)))
			failing(t, "RoutesShared with"+what, said(impl.RoutesShared(n, []int64{0, i}, 2)))
			failing(t, "ReachOf"+what, said(impl.ReachOf(n, i, 5)))
		}
	}
}

// A place without roads is reached from itself alone.
func TestPlacesWithoutRoads(t *testing.T) {
	saidTo(t, "RouteLongs in one place", said(impl.RouteLongs(net(1), 0)), []int64{0})
	saidTo(t, "RoutePath in one place", saidTwo(impl.RoutePath(net(1), 0, 0)), []int64{0}, int64(0))
	saidTo(t, "RouteLongs without roads", said(impl.RouteLongs(net(4), 2)), []int64{-1, -1, 0, -1})
	saidTo(t, "RoutePath without roads", saidTwo(impl.RoutePath(net(4), 2, 2)), []int64{2}, int64(0))
	failing(t, "RoutePath without roads to another place", saidTwo(impl.RoutePath(net(4), 2, 3)))
	saidTo(t, "ReachOf without roads", said(impl.ReachOf(net(4), 2, 1000000000)), []int64{2})
	n := net(4, road(0, 1, 5), road(3, 1, 2))
	saidTo(t, "RouteLongs to a place without roads", said(impl.RouteLongs(n, 3)), []int64{7, 2, -1, 0})
	saidTo(t, "RouteLongs from a place without roads", said(impl.RouteLongs(n, 2)), []int64{-1, -1, 0, -1})
	failing(t, "RoutePath to a place without roads", saidTwo(impl.RoutePath(n, 0, 2)))
	failing(t, "RoutePath from a place without roads", saidTwo(impl.RoutePath(n, 2, 0)))
	saidTo(t, "ReachOf a place without roads", said(impl.ReachOf(n, 2, 0)), []int64{2})
	saidTo(t, "ReachOf others", said(impl.ReachOf(n, 0, 1000000000)), []int64{0, 1, 3})
	saidTo(t, "RoutesShared without roads", said(impl.RoutesShared(net(3), []int64{2, 0}, 8)), [][]int64{{-1, -1, 0}, {0, -1, -1}})
	// Roads in two parts that do not meet.
	n = net(4, road(0, 2, 1), road(1, 3, 1))
	saidTo(t, "RouteLongs in one part", said(impl.RouteLongs(n, 1)), []int64{-1, 0, -1, 1})
	failing(t, "RoutePath to the other part", saidTwo(impl.RoutePath(n, 1, 2)))
}

func TestRoutes(t *testing.T) {
	n := net(4, road(0, 1, 2), road(2, 1, 3), road(0, 2, 9))
	for from, want := range [][]int64{{0, 2, 5, -1}, {2, 0, 3, -1}, {5, 3, 0, -1}, {-1, -1, -1, 0}} {
		saidTo(t, fmt.Sprint("RouteLongs from ", from), said(impl.RouteLongs(n, int64(from))), want)
	}
	saidTo(t, "RoutePath", saidTwo(impl.RoutePath(n, 0, 2)), []int64{0, 1, 2}, int64(5))
	saidTo(t, "RoutePath back", saidTwo(impl.RoutePath(n, 2, 0)), []int64{2, 1, 0}, int64(5))
	// The direct road is shorter by one than the others together.
	n.Roads[2].Long = 4
	saidTo(t, "RoutePath by one road", saidTwo(impl.RoutePath(n, 0, 2)), []int64{0, 2}, int64(4))
	// Both are equally long: the neighbour of the end with the least index comes first.
	n.Roads[2].Long = 5
	saidTo(t, "RoutePath of equal ones", saidTwo(impl.RoutePath(n, 0, 2)), []int64{0, 2}, int64(5))
	saidTo(t, "RoutePath of equal ones back", saidTwo(impl.RoutePath(n, 2, 0)), []int64{2, 1, 0}, int64(5))

	// Roads beside each other between the same places: the shortest one counts, wherever it stands.
	for _, longs := range [][]int64{{7, 3, 5}, {3, 5, 7}, {7, 5, 3}, {3, 3, 3}} {
		n = net(3, road(0, 1, longs[0]), road(1, 0, longs[1]), road(0, 1, longs[2]), road(2, 1, 1), road(1, 2, 2))
		saidTo(t, fmt.Sprint("RouteLongs of roads beside each other ", longs), said(impl.RouteLongs(n, 0)), []int64{0, 3, 4})
		saidTo(t, fmt.Sprint("RoutePath of roads beside each other ", longs), saidTwo(impl.RoutePath(n, 2, 0)), []int64{2, 1, 0}, int64(4))
	}

	// Routes of equal length by many places: from the end on, the least neighbour is taken, not the least route.
	n = net(6, road(0, 3, 1), road(0, 4, 1), road(3, 2, 1), road(4, 1, 1), road(1, 5, 1), road(2, 5, 1))
	saidTo(t, "RoutePath by the least neighbour of the end", saidTwo(impl.RoutePath(n, 0, 5)), []int64{0, 4, 1, 5}, int64(3))
	saidTo(t, "RoutePath back", saidTwo(impl.RoutePath(n, 5, 0)), []int64{5, 2, 3, 0}, int64(3))
	// A neighbour with a lesser index is no part of the route if its road is too long by one, or shorter than the difference.
	n = net(4, road(1, 3, 1), road(1, 2, 3), road(0, 3, 2), road(0, 2, 2), road(1, 0, 2))
	saidTo(t, "RoutePath past a neighbour", saidTwo(impl.RoutePath(n, 1, 2)), []int64{1, 2}, int64(3))
	saidTo(t, "RoutePath by a neighbour", saidTwo(impl.RoutePath(n, 2, 3)), []int64{2, 0, 3}, int64(4))
}

func TestLongRoutes(t *testing.T) {
	n := chain(64, 1000000)
	want := make([]int64, 64)
	for i := range want {
		want[i] = int64(i) * 1000000
	}
	saidTo(t, "RouteLongs along a chain", said(impl.RouteLongs(n, 0)), want)
	saidTo(t, "RoutePath along a chain", saidTwo(impl.RoutePath(n, 0, 63)), countUp(64), int64(63000000))
	saidTo(t, "ReachOf along a chain", said(impl.ReachOf(n, 0, 1000000000)), countUp(64))
	saidTo(t, "ReachOf nearly", said(impl.ReachOf(n, 0, 2999999)), countUp(3))
	saidTo(t, "ReachOf exactly", said(impl.ReachOf(n, 0, 3000000)), countUp(4))
	saidTo(t, "ReachOf itself", said(impl.ReachOf(n, 7, 0)), []int64{7})
	saidTo(t, "ReachOf itself, nearly farther", said(impl.ReachOf(n, 7, 999999)), []int64{7})
	saidTo(t, "ReachOf both sides", said(impl.ReachOf(n, 7, 1000000)), []int64{6, 7, 8})
	for _, most := range []int64{-1, 1000000001, 1 << 32, math.MaxInt64, math.MinInt64} {
		failing(t, fmt.Sprint("ReachOf ", most), said(impl.ReachOf(n, 7, most)))
	}
}

func TestRoutesShared(t *testing.T) {
	expect(t, "MaxTracks", impl.MaxTracks, 8)
	for i, n := range someNets() {
		var froms []int64
		var want [][]int64
		for k := range 9 {
			for workers := range int64(10) {
				got := said(impl.RoutesShared(n, froms, workers))
				what := fmt.Sprintf("RoutesShared of net %d from %v by %d workers", i, froms, workers)
				if workers < 1 || workers > 8 {
					failing(t, what, got)
				} else {
					saidTo(t, what, got, want)
				}
			}
			from := int64(k*k+i) % int64(len(n.Places))
			longs, _ := impl.RouteLongs(n, from)
			froms, want = append(froms, from), append(want, longs)
		}
		failing(t, "RoutesShared from 9 places", said(impl.RoutesShared(n, froms, 3)))
	}
	for _, workers := range []int64{-1, 9, 1 << 32, math.MaxInt64, math.MinInt64} {
		failing(t, fmt.Sprint("RoutesShared by workers ", workers), said(impl.RoutesShared(net(2), nil, workers)))
	}
	saidTo(t, "RoutesShared from equal places", said(impl.RoutesShared(net(2, road(0, 1, 4)), []int64{1, 1, 1}, 2)), [][]int64{{4, 0}, {4, 0}, {4, 0}})
}

func TestMatchTrack(t *testing.T) {
	n := net(4, road(0, 1, 2), road(2, 1, 3), road(0, 2, 9))
	// The places of the net are 256 parts apart.
	matches := func(by, sum int64, track []impl.Place, want ...int64) {
		t.Helper()
		saidTo(t, fmt.Sprintf("MatchTrack %v by %d", track, by), saidTwo(impl.MatchTrack(n, track, by)), want, sum)
	}
	p := func(parts float32) impl.Place { return at(0, parts/65536) }
	matches(0, 0, []impl.Place{p(0)}, 0)
	matches(1000000, 0, []impl.Place{p(768)}, 3)
	matches(1, 1, []impl.Place{p(512), p(256)}, 2, 1)
	matches(0, 0, []impl.Place{p(512), p(256)}, 2, 1)
	// It is as cheap to stay, and the lesser index is taken at the end.
	matches(256, 256, []impl.Place{p(512), p(256)}, 1, 1)
	matches(257, 256, []impl.Place{p(512), p(256)}, 1, 1)
	matches(255, 255, []impl.Place{p(512), p(256)}, 2, 1)
	matches(256, 256, []impl.Place{p(256), p(512)}, 1, 1)
	// No road leads to the place 3, so that one can neither come nor go.
	matches(0, 256, []impl.Place{p(768), p(512)}, 2, 2)
	matches(0, 256, []impl.Place{p(512), p(768)}, 2, 2)
	matches(0, 256, []impl.Place{p(768), p(0)}, 2, 0)
	matches(0, 0, []impl.Place{p(768), p(768), p(768)}, 3, 3, 3)
	matches(7, 256, []impl.Place{p(512), p(768), p(512)}, 2, 2, 2)
	// From 0 to 2 one road leads, which is longer than both others: roads are counted, not measured.
	matches(7, 7, []impl.Place{p(0), p(512)}, 0, 2)
	// Two places of the net that are equally near: the first one.
	matches(0, 128, []impl.Place{p(128)}, 0)
	matches(0, 127, []impl.Place{p(129)}, 1)
	matches(0, 127, []impl.Place{p(127)}, 0)
	// The first place before with the least sum, though it is as cheap to stay.
	matches(56, 156, []impl.Place{p(100), p(256)}, 0, 1)
	matches(57, 156, []impl.Place{p(100), p(256)}, 1, 1)
	matches(55, 155, []impl.Place{p(100), p(256)}, 0, 1)
	matches(1000, 128, []impl.Place{p(128), p(256)}, 1, 1)
	matches(1000, 256, []impl.Place{p(128), p(128)}, 0, 0)

	chained := chain(4, 9)
	saidTo(t, "MatchTrack along a chain", saidTwo(impl.MatchTrack(chained, []impl.Place{p(0), p(768)}, 10)), []int64{0, 3}, int64(30))
	saidTo(t, "MatchTrack along a chain, dearer", saidTwo(impl.MatchTrack(chained, []impl.Place{p(0), p(768)}, 300)), []int64{0, 0}, int64(768))
	saidTo(t, "MatchTrack along a chain, as dear", saidTwo(impl.MatchTrack(chained, []impl.Place{p(0), p(768)}, 256)), []int64{0, 0}, int64(768))
}

// Distances are told in whole parts; what is nearer than half a part is none.
func TestMatchedParts(t *testing.T) {
	n := net(1)
	for k := range 400 {
		p := at(float32(k%3)*0.00001, -float32(k*k)/(1<<19))
		apart, _ := impl.ApartOf(n.Places[0], p)
		want := int64(math.Floor(float64(float32(apart*65536) + 0.5)))
		saidTo(t, fmt.Sprintf("MatchTrack of a place %v turns away", apart), saidTwo(impl.MatchTrack(n, []impl.Place{p}, 0)), []int64{0}, want)
	}
	for parts, want := range map[float32]int64{0: 0, 0.25: 0, 0.45: 0, 0.55: 1, 1.45: 1, 1.55: 2, 1000.25: 1000, 16384: 16384} {
		saidTo(t, fmt.Sprintf("MatchTrack of a place %v parts away", parts), saidTwo(impl.MatchTrack(n, []impl.Place{at(0, -parts/65536)}, 0)), []int64{0}, want)
	}
	// Just below half a part, the sum of 32-bit numbers is 1.
	if apart, _ := impl.ApartOf(at(0, 0), at(0, below(0.5/65536))); apart != below(0.5/65536) {
		t.Errorf("ApartOf: got %v", apart)
	}
	saidTo(t, "MatchTrack of a place nearly half a part away", saidTwo(impl.MatchTrack(n, []impl.Place{at(0, below(0.5/65536))}, 0)), []int64{0}, int64(1))
	saidTo(t, "MatchTrack of an opposite place", saidTwo(impl.MatchTrack(n, []impl.Place{at(0, -0.5)}, 0)), []int64{0}, int64(32768))
	saidTo(t, "MatchTrack of 64 opposite places", saidTwo(impl.MatchTrack(n, slices.Repeat([]impl.Place{at(0, -0.5)}, 64), 1000000)), make([]int64, 64), int64(64*32768))
}

func TestMatchTrackHasLimits(t *testing.T) {
	n := chain(64, 1)
	list := slices.Repeat([]impl.Place{n.Places[3]}, 64)
	saidTo(t, "MatchTrack of 64 places", saidTwo(impl.MatchTrack(n, list, 1000000)), slices.Repeat([]int64{3}, 64), int64(0))
	failing(t, "MatchTrack of 65 places", saidTwo(impl.MatchTrack(n, append(list, n.Places[3]), 1000000)))
	failing(t, "MatchTrack of none", saidTwo(impl.MatchTrack(n, nil, 0)))
	for _, by := range []int64{-1, 1000001, 1 << 32, math.MaxInt64, math.MinInt64} {
		failing(t, fmt.Sprint("MatchTrack by ", by), saidTwo(impl.MatchTrack(n, list, by)))
		failing(t, fmt.Sprint("MatchTrack of one place by ", by), saidTwo(impl.MatchTrack(n, list[:1], by)))
	}
	for _, p := range wrongPlaces() {
		failing(t, fmt.Sprintf("MatchTrack of %v", p), saidTwo(impl.MatchTrack(n, []impl.Place{p}, 1)))
		failing(t, fmt.Sprintf("MatchTrack with %v", p), saidTwo(impl.MatchTrack(n, []impl.Place{at(0, 0), p}, 1)))
	}
}

// matchedByHand tries all places of a net for each place of a list, in ascending order from the last one on, and returns the first ones with the least sum.
func matchedByHand(n impl.Net, list []impl.Place, by int64) ([]int64, int64) {
	even := impl.Net{Places: n.Places, Roads: slices.Clone(n.Roads)}
	for i := range even.Roads {
		even.Roads[i].Long = 1
	}
	var counts [][]int64
	for i := range n.Places {
		longs, _ := impl.RouteLongs(even, int64(i))
		counts = append(counts, longs)
	}
	sumOf := func(match []int64) (int64, bool) {
		sum := int64(0)
		for i, p := range list {
			apart, _ := impl.ApartOf(p, n.Places[match[i]])
			sum += int64(math.Floor(float64(float32(apart*65536) + 0.5)))
			if i == 0 {
				continue
			}
			count := counts[match[i-1]][match[i]]
			if count < 0 {
				return 0, false
			}
			sum += by * count
		}
		return sum, true
	}
	var best []int64
	least := int64(-1)
	match := make([]int64, len(list))
	for {
		if sum, ok := sumOf(match); ok && (least < 0 || sum < least) {
			best, least = slices.Clone(match), sum
		}
		i := 0
		for i < len(match) && match[i] == int64(len(n.Places))-1 {
			match[i] = 0
			i++
		}
		if i == len(match) {
			return best, least
		}
		match[i]++
	}
}

// The first places are told from the last one of a track on: the least last one, then the least one before it, and so on. For equal sums, this is the first match of all in that order.
func TestMatchedTracks(t *testing.T) {
	for seed := range 200 {
		places := 1 + seed%5
		n := web(places, seed%7, seed)
		if seed%2 == 0 {
			// On a small square, many ways are equally long.
			for i := range n.Places {
				n.Places[i] = stepped(int64(i%2)<<12, int64(i/2)<<12)
			}
		}
		var list []impl.Place
		for i := range 1 + seed%4 {
			list = append(list, stepped(int64((seed+i)%3)<<11, int64((seed*i+i)%5)<<11))
		}
		for _, by := range []int64{0, 1, 7, 8, 16, 5000, 1000000} {
			want, sum := matchedByHand(n, list, by)
			saidTo(t, fmt.Sprintf("MatchTrack %v in %v by %d", list, n, by), saidTwo(impl.MatchTrack(n, list, by)), want, sum)
		}
	}
}
