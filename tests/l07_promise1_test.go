package tests

import (
	"fmt"
	"slices"
	"strings"
	"sync"
	"testing"

	"loop.example/g01341/impl"
)

// tileTexts are keys, bytes of places and of tracks, and other texts.
func tileTexts() []string {
	list := slices.Concat(someKeys(), wrongKeys(), notTracks(), oddTexts())
	for _, one := range someTracks() {
		stored, _ := impl.StoreTrack(one)
		packed, _ := impl.PackPlaces(one.Places)
		list = append(list, stored, packed, stored+packed, stored+stored, packed+stored, stored[:len(stored)/2], packed[:len(packed)/2])
	}
	return append(list, strings.Repeat("\xff", 100000), strings.Repeat("TRK2", 10000))
}

// Promise 1: each function returns for all arguments, and equal results for equal arguments.
func TestKeysReturnForAllTexts(t *testing.T) {
	integers := append(oddIntegers(), 2, 20, 21, 1000000, -1000000, 1000001)
	alike(t, tileTexts(), func(s string) string {
		all := fmt.Sprint(impl.IsKey(s)) + saidTwo(impl.KeyTile(s)) + saidTwo(impl.KeyBox(s)) + said(impl.KeyParent(s)) + said(impl.GatherKeys([]string{s}))
		all += said(impl.GatherKeys([]string{"0", s, "3", "", s})) + said(impl.GatherKeys([]string{s, "01", s, "2"}))
		for i, n := range integers {
			other := integers[(i*5+len(s))%len(integers)]
			all += said(impl.KeyBeside(s, n, other)) + said(impl.KeyBeside(s, n, 0)) + said(impl.KeyBeside(s, 1, n))
		}
		all += said(impl.UnpackPlaces(s)) + said(impl.LoadTrack(s)) + saidTwo(impl.RecoverTracks(s))
		return all + fmt.Sprint(impl.ValidTrack(track(s, at(0, 0)))) + said(impl.StoreTrack(track(s, at(0, 0)))) + said(impl.StoreTracks([]impl.Track{track("a", at(0, 0)), track(s, at(0, 0))}))
	})
}

func TestTilesReturnForAllIntegers(t *testing.T) {
	integers := append(oddIntegers(), 2, 3, 8, 9, 19, 20, 21, 24, 31, 32, 63, 64, 1048575, 1048576, 1000000000, 1000000001)
	nets := []impl.Net{net(3, road(0, 1, 1), road(2, 1, 7)), web(64, 64, 1), net(1), {}}
	alike(t, integers, func(n int64) string {
		all := ""
		for i, other := range integers {
			third := integers[(i*7+3)%len(integers)]
			all += said(impl.TileKey(n, other, third)) + said(impl.TileKey(n, 0, other)) + said(impl.TileKey(20, n, other))
			for _, net := range nets {
				all += fmt.Sprint(impl.ValidNet(impl.Net{Places: net.Places, Roads: []impl.Road{road(n, other, third)}})) + said(impl.PlainNet(net.Places, []impl.Road{road(0, n, other), road(n, 0, 1)}))
				all += saidTwo(impl.RoutePath(net, n, other)) + said(impl.ReachOf(net, n, other)) + said(impl.ReachOf(net, 0, n)) + said(impl.RoutesShared(net, []int64{n, other}, third)) + said(impl.RoutesShared(net, []int64{0}, n))
			}
		}
		for _, net := range nets {
			all += said(impl.RouteLongs(net, n)) + saidTwo(impl.MatchTrack(net, []impl.Place{at(0, 0), at(0.1, 0.2)}, n))
		}
		return all + said(impl.KeyOf(at(0.1, 0.2), n)) + said(impl.KeysIn(at(0, 0), at(0.01, 0.01), n)) + said(impl.NearPlaces(spread(9), at(0, 0), n))
	})
}

// oddLists are lists of places, valid and other ones, packed and other ones, with few, with many and with too many places.
func oddLists() [][]impl.Place {
	lists := [][]impl.Place{nil, {}, {at(0, 0)}, oddPlaces(), allPlaces(), edgePlaces(), ordinaryPlaces(), make([]impl.Place, 64), make([]impl.Place, 65), wrongPlaces(), unpackedPlaces()}
	for seed := range 20 {
		lists = append(lists, wandering(1+seed*seed%64, seed))
	}
	for _, p := range slices.Concat(wrongPlaces(), unpackedPlaces(), edgePlaces()) {
		lists = append(lists, []impl.Place{p}, []impl.Place{at(0, 0), p}, []impl.Place{p, at(0.125, 0.25), p})
	}
	return lists
}

func TestTilesReturnForAllPlaces(t *testing.T) {
	lists := oddLists()
	alike(t, lists, func(list []impl.Place) string {
		all := fmt.Sprint(impl.ArePacked(list)) + said(impl.PackPlaces(list)) + said(impl.PlainNet(list, nil)) + said(impl.PlainNet(list, []impl.Road{road(0, 1, 1)}))
		n := impl.Net{Places: list, Roads: []impl.Road{road(0, 1, 5), road(2, 1, 1)}}
		all += fmt.Sprint(impl.ValidNet(n), impl.ValidTrack(track("a", list...))) + said(impl.RouteLongs(n, 1)) + saidTwo(impl.RoutePath(n, 0, 2)) + said(impl.StoreTrack(track("abc", list...)))
		for i, other := range lists[:40] {
			if len(list) > 0 && len(other) > 0 {
				p, q := list[i%len(list)], other[len(list)%len(other)]
				all += said(impl.KeyOf(p, int64(i))) + said(impl.KeysIn(p, q, int64(i))) + said(impl.KeysIn(q, p, int64(i%4))) + said(impl.NearPlaces(list, q, int64(i)))
			}
			if i%8 == 0 {
				all += saidTwo(impl.MatchTrack(n, other, int64(i))) + saidTwo(impl.MatchTrack(impl.Net{Places: other}, list, 5))
			}
			tracks := []impl.Track{track("a", list...), track("b", other...)}
			all += said(impl.StoreTracks(tracks)) + fmt.Sprint(impl.SameTracks(tracks, []impl.Track{track("a", list...), track("b", list...)}))
		}
		return all
	})
}

func TestNetsReturnForAllArguments(t *testing.T) {
	alike(t, slices.Concat(someNets(), wrongNets()), func(n impl.Net) string {
		all := fmt.Sprint(impl.ValidNet(n)) + said(impl.PlainNet(n.Places, n.Roads))
		for _, i := range []int64{-1, 0, 1, 2, 5, 63, 64} {
			all += said(impl.RouteLongs(n, i)) + saidTwo(impl.RoutePath(n, i, 1)) + saidTwo(impl.RoutePath(n, 2, i)) + said(impl.ReachOf(n, i, i)) + said(impl.RoutesShared(n, []int64{i, 0}, i))
		}
		return all + saidTwo(impl.MatchTrack(n, spread(5), 100)) + saidTwo(impl.MatchTrack(n, n.Places, 3))
	})
}

// Promise 1: no function modifies its lists, or what lies behind them.
func TestTilesAreNotModified(t *testing.T) {
	for _, list := range oddLists() {
		unchanged(t, "a function of places", list, at(7, 8), func(list []impl.Place) {
			impl.ArePacked(list)
			impl.PackPlaces(list)
			impl.NearPlaces(list, at(0.1, 0.1), int64(len(list)))
			impl.PlainNet(list, []impl.Road{road(0, 1, 1)})
			callNet(impl.Net{Places: list, Roads: []impl.Road{road(0, 1, 1)}})
			impl.MatchTrack(net(3), list, 5)
			one := []impl.Track{track("a", list...)}
			impl.ValidTrack(one[0])
			impl.StoreTrack(one[0])
			impl.SameTracks(one, one)
			impl.StoreTracks(one)
		})
	}
	for _, n := range slices.Concat(someNets(), wrongNets()) {
		unchanged(t, "a function of a net", n.Roads, road(7, 8, 9), func(roads []impl.Road) {
			callNet(impl.Net{Places: n.Places, Roads: roads})
		})
	}
	for n := range 20 {
		keys := slices.Repeat([]string{"33", "1", "32", "30", "0", "31", "2", "21"}, 9)[n : n+n*2+1]
		unchanged(t, "GatherKeys", keys, "7", func(keys []string) { impl.GatherKeys(keys) })
		tracks := someTracks()[:n]
		unchanged(t, "a function of tracks", tracks, track("g", at(7, 8)), func(list []impl.Track) {
			impl.SameTracks(list, list)
			impl.StoreTracks(list)
		})
		unchanged(t, "RoutesShared", countUp(int64(n)), 77, func(froms []int64) { impl.RoutesShared(web(20, 20, 1), froms, 3) })
	}
}

// callNet calls all functions of a net.
func callNet(n impl.Net) {
	impl.ValidNet(n)
	impl.PlainNet(n.Places, n.Roads)
	impl.RouteLongs(n, 0)
	impl.RoutePath(n, 0, int64(len(n.Places))-1)
	impl.RoutesShared(n, []int64{0, 0}, 3)
	impl.ReachOf(n, 0, 1000)
	impl.MatchTrack(n, n.Places, 5)
}

// Promise 1: returned lists are new, each time, with their unused capacity.
func TestReturnedTilesAreNew(t *testing.T) {
	keys := []string{"00", "1", "01", "3", "02"}
	spoil(t, "GatherKeys", "", func(string) ([]string, bool) { return impl.GatherKeys(keys) })
	spoil(t, "KeysIn", "", func(string) ([]string, bool) { return impl.KeysIn(at(-0.1, -0.1), at(0.1, 0.1), 4) })
	places := wandering(20, 1)
	packed, _ := impl.PackPlaces(places)
	spoil(t, "UnpackPlaces", packed, impl.UnpackPlaces)
	stored, _ := impl.StoreTrack(track("abc", places...))
	spoil(t, "LoadTrack", stored, func(s string) ([]impl.Place, bool) {
		one, ok := impl.LoadTrack(s)
		return one.Places, ok
	})
	spoil(t, "RecoverTracks", stored+stored, func(s string) ([]impl.Track, bool) {
		list, _, ok := impl.RecoverTracks(s)
		return list, ok
	})
	n := web(12, 20, 1)
	integers := map[string]func() ([]int64, bool){
		"NearPlaces": func() ([]int64, bool) { return impl.NearPlaces(places, at(0, 0), 9) },
		"RouteLongs": func() ([]int64, bool) { return impl.RouteLongs(n, 1) },
		"ReachOf":    func() ([]int64, bool) { return impl.ReachOf(n, 1, 1000) },
		"RoutePath": func() ([]int64, bool) {
			path, _, ok := impl.RoutePath(n, 1, 1)
			return path, ok
		},
		"MatchTrack": func() ([]int64, bool) {
			match, _, ok := impl.MatchTrack(n, places, 5)
			return match, ok
		},
	}
	for name, call := range integers {
		spoil(t, name, "", func(string) ([]int64, bool) { return call() })
	}
	spoil(t, "RoutesShared", "", func(string) ([][]int64, bool) { return impl.RoutesShared(n, []int64{1, 2}, 2) })
}

// Promise 1: a net has new places and roads, and what is told of equal places, or read of equal tracks, shares no memory.
func TestReturnedTilesAreApart(t *testing.T) {
	places, roads := wandering(5, 1), []impl.Road{road(0, 1, 2), road(1, 2, 3)}
	n, _ := impl.PlainNet(places, roads)
	clear(n.Places[:cap(n.Places)])
	clear(n.Roads[:cap(n.Roads)])
	saidTo(t, "the arguments of PlainNet", words(true, places, roads), wandering(5, 1), []impl.Road{road(0, 1, 2), road(1, 2, 3)})
	n, _ = impl.PlainNet(places, roads)
	places[0], roads[0] = at(0.2, 0.2), road(4, 3, 9)
	saidTo(t, "PlainNet, behind a change of its arguments", words(true, n), wandering(5, 1), []impl.Road{road(0, 1, 2), road(1, 2, 3)})

	for i := range 4 {
		longs, _ := impl.RoutesShared(n, []int64{2, 2, 2, 2}, 2)
		clear(longs[i][:cap(longs[i])])
		for k, list := range longs {
			if k != i {
				expect(t, "RoutesShared from equal places", list, []int64{5, 3, 0, -1, -1})
			}
		}
	}
	stored, _ := impl.StoreTrack(track("abc", wandering(9, 2)...))
	for i := range 3 {
		list, _, _ := impl.RecoverTracks(stored + stored + stored)
		clear(list[i].Places[:cap(list[i].Places)])
		for k, one := range list {
			if k != i {
				saidTo(t, "RecoverTracks of equal tracks", words(true, one), "abc", wandering(9, 2))
			}
		}
	}
}

// Promise 1: many calls at once return what each of them returns alone, and leave no goroutine behind.
func TestRoutesAtOnce(t *testing.T) {
	n, froms := web(64, 64, 1), []int64{0, 5, 63, 7, 7, 31, 2, 40}
	want := said(impl.RoutesShared(n, froms, 1))
	var lock sync.Mutex
	check := func(what, got, want string) {
		if got != want {
			lock.Lock()
			defer lock.Unlock()
			t.Errorf("%s: got %s, want %s", what, got, want)
		}
	}
	leavesNone(t, 64, func(i int) {
		workers := int64(i%impl.MaxWorkers) + 1
		check(fmt.Sprint("routes of workers ", workers), said(impl.RoutesShared(n, froms, workers)), want)
		check("routes of no places", said(impl.RoutesShared(n, nil, workers)), "[]")
		check("routes of a wrong place", said(impl.RoutesShared(n, []int64{1, 64}, workers)), "fails")
	})
	stored, _ := impl.StoreTracks(someTracks()[:8])
	all := saidTwo(impl.RecoverTracks(stored))
	leavesNone(t, 64, func(i int) {
		check("tracks read at once", saidTwo(impl.RecoverTracks(stored)), all)
		check("wrong bytes read at once", said(impl.UnpackPlaces(stored[i:])), "fails")
	})
}
