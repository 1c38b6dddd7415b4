package tests

import (
	"fmt"
	"slices"
	"strings"
	"testing"

	"loop.example/g01341/impl"
)

// keyedPlaces are places whose keys are told: ordinary ones, ones at the edges, and ones by their steps, with those in which the steps of rows and columns begin and end.
func keyedPlaces() []impl.Place {
	list := slices.Concat(allPlaces(), wandering(100, 1), wandering(100, 2))
	for digits := range 23 {
		step := int64(1) << digits
		for _, east := range []int64{step, step - 1, -step, -step - 1} {
			north := min(max(east/2, -4194304), 4194304)
			list = append(list, stepped(north, min(max(east, -8388608), 8388607)), stepped(-north, 8388607-step))
		}
	}
	return list
}

// Promise 8: keys tell the tiles that hold their places.
func TestKeysTellTilesThatHoldTheirPlaces(t *testing.T) {
	for _, p := range keyedPlaces() {
		north, east, _ := impl.StepsOf(p)
		// The northern pole is held by the last row, whose box ends a step below it.
		north = min(north, 4194303)
		for zoom := range int64(21) {
			what := fmt.Sprintf("%v for the zoom %d", p, zoom)
			key, ok := impl.KeyOf(p, zoom)
			if !ok || !impl.IsKey(key) || int64(len(key)) != zoom {
				t.Fatalf("KeyOf %s: got %q, %v", what, key, ok)
			}
			low, high, ok := impl.KeyBox(key)
			bottom, left, _ := impl.StepsOf(low)
			top, right, _ := impl.StepsOf(high)
			if !ok || north < bottom || north > top || east < left || east > right {
				t.Errorf("the box from %v to %v does not hold %s", low, high, what)
			}
			x, y, ok := impl.KeyTile(key)
			if last := int64(1)<<zoom - 1; !ok || x < 0 || y < 0 || x > last || y > last {
				t.Errorf("KeyTile of %s: got %d, %d, %v", what, x, y, ok)
			}
			if right-left+1 != 1<<(24-zoom) || top-bottom+1 != 1<<(23-zoom) || left != x<<(24-zoom)-8388608 || bottom != y<<(23-zoom)-4194304 {
				t.Errorf("the box from %v to %v is not that of the tile %d, %d for the zoom %d", low, high, x, y, zoom)
			}
			succeeds(t, "TileKey of "+what, key)(impl.TileKey(zoom, x, y))
			// The corners of a box are packed places of its tile, and those beside it are not.
			for _, corner := range []impl.Place{low, high, stepped(bottom, right), stepped(top, left)} {
				succeeds(t, fmt.Sprintf("KeyOf the corner %v of %s", corner, what), key)(impl.KeyOf(corner, zoom))
			}
			for _, other := range []impl.Place{stepped(min(top+1, 4194303), east), stepped(max(bottom-1, -4194304), east)} {
				otherKey, _ := impl.KeyOf(other, zoom)
				if n, _, _ := impl.StepsOf(other); (n < bottom || n > top) != (otherKey != key) {
					t.Errorf("KeyOf %v beside %s: got %q", other, what, otherKey)
				}
			}
		}
	}
}

// Promise 8: a tile lies in the tiles of all beginnings of its key, and holds those of the four keys that go on.
func TestKeysNest(t *testing.T) {
	for _, p := range keyedPlaces() {
		whole, _ := impl.KeyOf(p, 20)
		for zoom := int64(20); zoom > 0; zoom-- {
			key, _ := impl.KeyOf(p, zoom)
			parent, ok := impl.KeyParent(key)
			up, _ := impl.KeyOf(p, zoom-1)
			if !ok || parent != up || !strings.HasPrefix(whole, key) {
				t.Errorf("KeyParent %q: got %q, want %q", key, parent, up)
			}
			x, y, _ := impl.KeyTile(key)
			saidTo(t, "KeyTile of the parent of "+key, saidTwo(impl.KeyTile(parent)), x/2, y/2)
			saidTo(t, "GatherKeys of those in "+parent, said(impl.GatherKeys([]string{parent + "2", parent + "0", parent + "3", parent + "1"})), []string{parent})
		}
	}
}

// Promise 8: keys of tiles beside each other lead there and back, around the ball.
func TestKeysBeside(t *testing.T) {
	for i, key := range someKeys() {
		x, y, _ := impl.KeyTile(key)
		size := int64(1) << len(key)
		for _, east := range []int64{0, 1, -1, int64(i), -1000000, 1000000, size, -size} {
			for _, north := range []int64{0, 1, -1, -y, size - 1 - y} {
				what := fmt.Sprintf("KeyBeside %s, %d, %d", key, east, north)
				if east > 1000000 || east < -1000000 || north > 1000000 || north < -1000000 || y+north < 0 || y+north >= size {
					failing(t, what, said(impl.KeyBeside(key, east, north)))
					continue
				}
				column := (x + east) % size
				if column < 0 {
					column += size
				}
				beside, ok := impl.KeyBeside(key, east, north)
				saidTo(t, what, said(beside, ok), mustKey(t, int64(len(key)), column, y+north))
				saidTo(t, what+", and back", said(impl.KeyBeside(beside, -east, -north)), key)
			}
		}
	}
}

// Promise 8: the keys between two places are those of the tiles that hold them and of all between them, and of no others.
func TestKeysInHoldBothPlaces(t *testing.T) {
	list := keyedPlaces()
	found := 0
	for i, low := range list {
		for k := range 40 {
			high := list[(i*7+k*k)%len(list)]
			zoom := int64(k % 6)
			first, _ := impl.KeyOf(low, zoom)
			last, _ := impl.KeyOf(high, zoom)
			x, y, _ := impl.KeyTile(first)
			right, top, _ := impl.KeyTile(last)
			columns := (right-x+1<<zoom)%(1<<zoom) + 1
			keys, ok := impl.KeysIn(low, high, zoom)
			if should := top >= y && columns*(top-y+1) <= 64; ok != should {
				t.Errorf("KeysIn %v, %v, %d: got %v, want %v", low, high, zoom, ok, should)
			}
			if !ok {
				continue
			}
			found++
			if int64(len(keys)) != columns*(top-y+1) || keys[0] != first || keys[len(keys)-1] != last {
				t.Errorf("KeysIn %v, %v, %d: got %q", low, high, zoom, keys)
			}
			for n, key := range keys {
				want, _ := impl.KeyBeside(first, int64(n)%columns, int64(n)/columns)
				expect(t, fmt.Sprintf("key %d of KeysIn %v, %v, %d", n, low, high, zoom), key, want)
			}
		}
	}
	if found < 1000 {
		t.Errorf("only %d pairs of places have keys", found)
	}
}

// longsByHand tells how long routes are by trying all places between.
func longsByHand(n impl.Net) [][]int64 {
	longs := make([][]int64, len(n.Places))
	for i := range longs {
		longs[i] = slices.Repeat([]int64{-1}, len(n.Places))
		longs[i][i] = 0
	}
	shorten := func(a, b, long int64) {
		if longs[a][b] < 0 || long < longs[a][b] {
			longs[a][b] = long
		}
	}
	for _, r := range n.Roads {
		shorten(r.A, r.B, r.Long)
		shorten(r.B, r.A, r.Long)
	}
	for between := range longs {
		for a := range longs {
			for b := range longs {
				if first, second := longs[a][between], longs[between][b]; first >= 0 && second >= 0 {
					shorten(int64(a), int64(b), first+second)
				}
			}
		}
	}
	return longs
}

// shortestRoad returns how long the shortest road between two places is, or -1.
func shortestRoad(n impl.Net, a, b int64) int64 {
	least := int64(-1)
	for _, r := range n.Roads {
		if (r.A == a && r.B == b || r.A == b && r.B == a) && (least < 0 || r.Long < least) {
			least = r.Long
		}
	}
	return least
}

// Promise 8: routes are as long as their roads, and none is shorter.
func TestRoutesAreAsLongAsTheirRoads(t *testing.T) {
	for i, n := range someNets() {
		longs := longsByHand(n)
		for from := range int64(len(n.Places)) {
			saidTo(t, fmt.Sprintf("RouteLongs in the net %d from %d", i, from), said(impl.RouteLongs(n, from)), longs[from])
			for to := range int64(len(n.Places)) {
				what := fmt.Sprintf("RoutePath in the net %d from %d to %d", i, from, to)
				if longs[from][to] < 0 {
					failing(t, what, saidTwo(impl.RoutePath(n, from, to)))
					continue
				}
				path, long, ok := impl.RoutePath(n, from, to)
				if !ok || long != longs[from][to] || path[0] != from || path[len(path)-1] != to {
					t.Fatalf("%s: got %v, %d, %v", what, path, long, ok)
				}
				sum := int64(0)
				for k := len(path) - 1; k > 0; k-- {
					p, q := path[k], path[k-1]
					step := shortestRoad(n, p, q)
					sum += step
					if step < 1 || longs[from][q]+step != longs[from][p] {
						t.Errorf("%s: no road of a shortest route leads from %d to %d", what, q, p)
					}
					for other := range q {
						if step := shortestRoad(n, p, other); step > 0 && longs[from][other] >= 0 && longs[from][other]+step == longs[from][p] {
							t.Errorf("%s: comes to %d from %d, but %d is less", what, p, q, other)
						}
					}
				}
				if sum != long {
					t.Errorf("%s: the roads are %d long, and the route %d", what, sum, long)
				}
			}
		}
	}
}

// Promise 8: what is reached is as near as asked for, and all of it is.
func TestReachedPlaces(t *testing.T) {
	for i, n := range someNets() {
		for from, longs := range longsByHand(n) {
			for _, most := range []int64{0, 1, 2, 5, 10, 1000000, 1000000000} {
				var want []int64
				for k, long := range longs {
					if long >= 0 && long <= most {
						want = append(want, int64(k))
					}
				}
				saidTo(t, fmt.Sprintf("ReachOf in the net %d from %d, %d", i, from, most), said(impl.ReachOf(n, int64(from), most)), want)
			}
		}
	}
}

// Promise 8: tracks are loaded as they were stored.
func TestTracksAreLoadedAsTheyWereStored(t *testing.T) {
	for i, one := range someTracks() {
		stored, ok := impl.StoreTrack(one)
		if !ok {
			t.Fatalf("StoreTrack of the track %d fails", i)
		}
		loaded, ok := impl.LoadTrack(stored)
		if !ok || !impl.SameTracks([]impl.Track{loaded}, []impl.Track{one}) || !impl.ValidTrack(loaded) {
			t.Errorf("LoadTrack of the track %d: got %v, %v, want %v", i, loaded, ok, one)
		}
		again, _ := impl.StoreTrack(loaded)
		expect(t, "StoreTrack of what is loaded", again, stored)
	}
}

// Promise 8: lists of tracks are recovered as they were stored, also with other bytes behind them.
func TestTracksAreRecoveredAsTheyWereStored(t *testing.T) {
	list := someTracks()
	for i := range list {
		for count := range 9 {
			some := append(slices.Clone(list[i:]), list[:i]...)[:count]
			all, ok := impl.StoreTracks(some)
			if !ok {
				t.Fatalf("StoreTracks of %d tracks from %d on fails", count, i)
			}
			for _, more := range []string{"", "\x00", "TRK2", "TRK2\x01a\x02\x00\x00\x00xx"} {
				got, bytes, ok := impl.RecoverTracks(all + more)
				if !ok || bytes != int64(len(all)) || !impl.SameTracks(got, some) {
					t.Errorf("RecoverTracks of %d tracks from %d on: got %d tracks, %d bytes, %v", count, i, len(got), bytes, ok)
				}
			}
		}
	}
}

// Promise 8: packed places lead back, and small steps of any place are packed.
func TestPackedPlacesLeadBack(t *testing.T) {
	places := keyedPlaces()
	for i, p := range places {
		north, east, _ := impl.StepsOf(p)
		places[i] = stepped(north, east)
		expect(t, fmt.Sprintf("ArePacked of the steps of %v", p), impl.ArePacked(places[i:i+1]), true)
		expect(t, fmt.Sprintf("ArePacked %v", p), impl.ArePacked([]impl.Place{p}), impl.SamePlace(p, places[i]))
	}
	for list := range slices.Chunk(places, 37) {
		packed, ok := impl.PackPlaces(list)
		if !ok {
			t.Fatalf("PackPlaces %v fails", list)
		}
		saidTo(t, "UnpackPlaces", said(impl.UnpackPlaces(packed)), list)
	}
}
