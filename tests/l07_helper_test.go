package tests

import (
	"encoding/hex"
	"fmt"
	"math"
	"slices"
	"strconv"
	"strings"
	"testing"

	"loop.example/g01341/impl"
)

// tileCall is how a function of chapter 7 is called: n are the numbers of its arguments, k the integers, and s the texts.
type tileCall = func(n []float32, k []int64, s []string) string

// ofKey is the call of a function of a key.
func ofKey[T any](f func(string) (T, bool)) tileCall {
	return func(n []float32, k []int64, s []string) string { return said(f(s[0])) }
}

// ofKeyTwo is the same for a function with two results.
func ofKeyTwo[T, U any](f func(string) (T, U, bool)) tileCall {
	return func(n []float32, k []int64, s []string) string { return saidTwo(f(s[0])) }
}

// ofNet is the call of a function of a net, told by netOf, to which the other numbers and integers are given.
func ofNet(f func(net impl.Net, n []float32, k []int64) string) tileCall {
	return func(n []float32, k []int64, s []string) string {
		places, roads := 2*k[0], k[1]
		return f(netOf(n[:places], k[2:2+3*roads]), n[places:], k[2+3*roads:])
	}
}

// ofTiles has the functions of chapter 7.
var ofTiles = map[string]tileCall{
	"KeyOf":     func(n []float32, k []int64, s []string) string { return said(impl.KeyOf(at(n[0], n[1]), k[0])) },
	"IsKey":     func(n []float32, k []int64, s []string) string { return words(true, impl.IsKey(s[0])) },
	"KeyTile":   ofKeyTwo(impl.KeyTile),
	"TileKey":   func(n []float32, k []int64, s []string) string { return said(impl.TileKey(k[0], k[1], k[2])) },
	"KeyBox":    ofKeyTwo(impl.KeyBox),
	"KeyParent": ofKey(impl.KeyParent),
	"KeyBeside": func(n []float32, k []int64, s []string) string { return said(impl.KeyBeside(s[0], k[0], k[1])) },
	"KeysIn": func(n []float32, k []int64, s []string) string {
		return said(impl.KeysIn(at(n[0], n[1]), at(n[2], n[3]), k[0]))
	},
	"GatherKeys":   func(n []float32, k []int64, s []string) string { return said(impl.GatherKeys(s)) },
	"ArePacked":    func(n []float32, k []int64, s []string) string { return words(true, impl.ArePacked(placesOf(n))) },
	"PackPlaces":   func(n []float32, k []int64, s []string) string { return said(impl.PackPlaces(placesOf(n))) },
	"UnpackPlaces": ofKey(impl.UnpackPlaces),
	"NearPlaces": func(n []float32, k []int64, s []string) string {
		return said(impl.NearPlaces(placesOf(n[2:]), at(n[0], n[1]), k[0]))
	},
	"ValidNet": ofNet(func(net impl.Net, n []float32, k []int64) string { return words(true, impl.ValidNet(net)) }),
	"PlainNet": ofNet(func(net impl.Net, n []float32, k []int64) string {
		return said(impl.PlainNet(net.Places, net.Roads))
	}),
	"RouteLongs": ofNet(func(net impl.Net, n []float32, k []int64) string { return said(impl.RouteLongs(net, k[0])) }),
	"RoutePath": ofNet(func(net impl.Net, n []float32, k []int64) string {
		return saidTwo(impl.RoutePath(net, k[0], k[1]))
	}),
	"RoutesShared": ofNet(func(net impl.Net, n []float32, k []int64) string {
		return said(impl.RoutesShared(net, k[1:], k[0]))
	}),
	"ReachOf": ofNet(func(net impl.Net, n []float32, k []int64) string { return said(impl.ReachOf(net, k[0], k[1])) }),
	"MatchTrack": ofNet(func(net impl.Net, n []float32, k []int64) string {
		return saidTwo(impl.MatchTrack(net, placesOf(n), k[0]))
	}),
	"ValidTrack": func(n []float32, k []int64, s []string) string {
		return words(true, impl.ValidTrack(track(s[0], placesOf(n)...)))
	},
	"StoreTrack": func(n []float32, k []int64, s []string) string {
		return said(impl.StoreTrack(track(s[0], placesOf(n)...)))
	},
	"LoadTrack":     ofKey(impl.LoadTrack),
	"StoreTracks":   func(n []float32, k []int64, s []string) string { return said(impl.StoreTracks(tracksOf(n, k, s))) },
	"RecoverTracks": ofKeyTwo(impl.RecoverTracks),
}

// netOf returns the net of the numbers of its places, and of the integers of its roads.
func netOf(n []float32, k []int64) impl.Net {
	net := impl.Net{Places: placesOf(n)}
	for r := range slices.Chunk(k, 3) {
		net.Roads = append(net.Roads, road(r[0], r[1], r[2]))
	}
	return net
}

// tracksOf returns tracks with these names, where k tells how many places each of them has.
func tracksOf(n []float32, k []int64, s []string) []impl.Track {
	var list []impl.Track
	for i, name := range s {
		list = append(list, track(name, placesOf(n[:2*k[i]])...))
		n = n[2*k[i]:]
	}
	return list
}

// checkTileRow checks a row with the name of a function of chapter 7, its arguments, "=", and what it returns.
func checkTileRow(t *testing.T, row string) {
	t.Helper()
	args, want, _ := strings.Cut(row, " = ")
	fields := strings.Fields(args)
	var n []float32
	var k []int64
	var s []string
	for _, word := range fields[1:] {
		switch word[0] {
		case 'i':
			integer, _ := strconv.ParseInt(word[1:], 10, 64)
			k = append(k, integer)
		case '\'':
			s = append(s, strings.Trim(word, "'"))
		case 'x':
			bytes, _ := hex.DecodeString(strings.Trim(word[1:], "'"))
			s = append(s, string(bytes))
		default:
			bits, _ := strconv.ParseUint(word, 16, 32)
			n = append(n, num(uint32(bits)))
		}
	}
	if got := ofTiles[fields[0]](n, k, s); got != want {
		t.Errorf("%s: got %s, want %s", args, got, want)
	}
}

// tileWordsOf writes texts of letters and digits as they are, other ones by their bytes, and the parts of nets and tracks one by one.
func tileWordsOf(x any) []string {
	switch v := x.(type) {
	case string:
		if strings.Trim(v, "0123456789abcdefghijklmnopqrstuvwxyz") == "" {
			return []string{"'" + v + "'"}
		}
		return []string{fmt.Sprintf("x'%x'", v)}
	case []string:
		return []string{"[" + words(true, anyOf(v)...) + "]"}
	case [][]int64:
		return []string{tellList(v)}
	case impl.Road:
		return []string{words(true, v.A, v.B, v.Long)}
	case []impl.Road:
		return []string{"[" + words(true, anyOf(v)...) + "]"}
	case impl.Net:
		return []string{words(true, v.Places, v.Roads)}
	case impl.Track:
		return []string{words(true, v.Name, v.Places)}
	case []impl.Track:
		return []string{"[" + words(true, anyOf(v)...) + "]"}
	}
	return deskWordsOf(x)
}

func road(a, b, long int64) impl.Road { return impl.Road{A: a, B: b, Long: long} }

func track(name string, places ...impl.Place) impl.Track {
	return impl.Track{Name: name, Places: places}
}

// stepped returns the place of steps, which must be some of a place.
func stepped(north, east int64) impl.Place {
	p, ok := impl.PlaceOfSteps(north, east)
	if !ok {
		panic(fmt.Sprint("no place has the steps ", north, east))
	}
	return p
}

// net returns a net of count places with these roads. Up to 128 places are one behind the other on the equator, a part in 256 of a turn apart.
func net(count int, roads ...impl.Road) impl.Net {
	n := impl.Net{Roads: roads}
	for i := range count {
		n.Places = append(n.Places, stepped(0, int64(i%128)<<16))
	}
	return n
}

// web returns a net of count places that are spread over the ball with as many roads, which depend on the seed. Many of them are equally long, and every fourth seed leaves some places without roads.
func web(count, roads, seed int) impl.Net {
	n := impl.Net{Places: wandering(count, seed)}
	for i, z := range tangle(roads, seed) {
		a := int(real(z) * 1e4)
		if seed%4 == 0 {
			a = a / 2 * 2
		}
		a %= count
		b := (a + 1 + int(imag(z)*1e4)%max(count-1, 1)) % count
		if a != b {
			n.Roads = append(n.Roads, road(int64(a), int64(b), int64(1+(seed+i*i)%(seed%7+2))))
		}
	}
	return n
}

// wandering returns count packed places, the same ones for the same count and seed. Every third seed has small steps, every other one large ones.
func wandering(count, seed int) []impl.Place {
	list := make([]impl.Place, count)
	for i, z := range tangle(count, seed+100) {
		north, east := int64(real(z)*1048576)-4194304, int64(imag(z)*2097152)-8388608
		if seed%3 == 1 {
			north, east = north/65536, east/65536
		}
		list[i] = stepped(north, east)
	}
	return list
}

// someNets are valid nets with few and with many places and roads, the fewest and the most ones among them.
func someNets() []impl.Net {
	list := []impl.Net{net(1), net(2), net(64), net(2, road(0, 1, 1)), net(2, road(1, 0, 1000000), road(0, 1, 3), road(1, 0, 3))}
	for seed := range 40 {
		list = append(list, web(1+seed%13, seed%5*5, seed))
	}
	return append(list, web(64, 64, 1), web(64, 64, 2), web(5, 64, 3), web(2, 64, 5), chain(64, 1000000))
}

// chain returns a net of count places with equal roads from each one to the next one.
func chain(count int, long int64) impl.Net {
	n := net(count)
	for i := range int64(count - 1) {
		n.Roads = append(n.Roads, road(i, i+1, long))
	}
	return n
}

// wrongNets are not valid: there are too few or too many places or roads, or one is wrong, each by the least that is possible or by much.
func wrongNets() []impl.Net {
	list := []impl.Net{{}, net(65), net(0, road(0, 1, 1)), net(1000), net(2, slices.Repeat([]impl.Road{road(0, 1, 1)}, 65)...)}
	for _, r := range []impl.Road{{}, road(0, 0, 1), road(2, 2, 1), road(-1, 1, 1), road(1, -1, 1), road(3, 1, 1), road(1, 3, 1), road(0, 1, 0), road(0, 1, -1), road(0, 1, 1000001)} {
		list = append(list, net(3, r), net(3, road(0, 1, 1), r), net(3, r, road(0, 2, 1)))
	}
	for _, x := range []int64{1 << 32, 1<<32 + 1, math.MaxInt64, math.MinInt64} {
		list = append(list, net(3, road(x, 1, 1)), net(3, road(1, x, 1)), net(3, road(0, 1, x)), net(3, road(x, x, x)))
	}
	for _, p := range wrongPlaces() {
		list = append(list, impl.Net{Places: []impl.Place{p}}, impl.Net{Places: []impl.Place{at(0, 0), p, at(0, 0)}, Roads: []impl.Road{road(0, 2, 1)}})
	}
	return list
}

// someKeys are keys of few and of many letters, of none and of MaxZoom ones among them.
func someKeys() []string {
	list := []string{"", "0", "1", "2", "3", "0123", "33", strings.Repeat("0", 20), strings.Repeat("3", 20), strings.Repeat("1", 19), strings.Repeat("2", 20), strings.Repeat("0123", 5)}
	for i, z := range tangle(60, 3) {
		key := strconv.FormatInt(int64(real(z)*1e9), 4) + strconv.FormatInt(int64(imag(z)*1e9), 4)
		list = append(list, key[:min(i%21, len(key))])
	}
	return list
}

// wrongKeys are none: they are too long, or have a letter that is none of a key.
func wrongKeys() []string {
	list := []string{strings.Repeat("0", 21), strings.Repeat("3", 21), strings.Repeat("12", 500)}
	for _, letter := range []string{"4", "/", "a", " ", "-", "\x00", "\xff", "\xb0", "é", "３", "\n", ","} {
		list = append(list, letter, "0"+letter, letter+"0", "01"+letter+"23")
	}
	return list
}

// wrongTracks are not valid: their name is none, or their places are not packed.
func wrongTracks() []impl.Track {
	p := stepped(3, 5)
	list := []impl.Track{{}, track("a"), track("", p), track("abcdefghi", p), track("abcdefghijklmnop", p), track("a", slices.Repeat([]impl.Place{p}, 65)...)}
	for _, name := range []string{"A", "a1", "a b", "é", "`", "{", "\x00", "\xff", "a\n"} {
		list = append(list, track(name, p))
	}
	for _, q := range slices.Concat(wrongPlaces(), unpackedPlaces()) {
		list = append(list, track("a", q), track("ab", p, q), track("ab", q, p))
	}
	return list
}

// unpackedPlaces are valid, but are no places of steps.
func unpackedPlaces() []impl.Place {
	return []impl.Place{at(minusZero(), 0), at(0, minusZero()), at(num(1), 0), at(0, num(1)), at(0, below(0.5)), at(below(0.25), 0), at(below(-0.25), 0), at(1.0/(1<<25), 0), at(0, 3.0/(1<<25)), at(0.1, 0), at(0, 0.1)}
}
