package tests

import (
	"fmt"
	"math"
	"slices"
	"strings"
	"testing"

	"loop.example/g01341/impl"
)

func TestKeyOf(t *testing.T) {
	for zoom, key := range []string{"", "3", "30", "300", "3000"} {
		succeeds(t, fmt.Sprint("KeyOf 0, 0 for the zoom ", zoom), key)(impl.KeyOf(at(0, 0), int64(zoom)))
	}
	corners := map[string]impl.Place{"0": at(-0.25, -0.5), "1": at(-0.25, 0.49), "2": at(0.25, -0.5), "3": at(0.25, 0.49)}
	for letter, p := range corners {
		succeeds(t, fmt.Sprintf("KeyOf %v", p), letter)(impl.KeyOf(p, 1))
	}
	// The poles are in the last and in the first row, for each zoom.
	for zoom := range int64(21) {
		succeeds(t, "KeyOf the northern pole", strings.Repeat("2", int(zoom)))(impl.KeyOf(at(0.25, -0.5), zoom))
		succeeds(t, "KeyOf the southern pole", strings.Repeat("0", int(zoom)))(impl.KeyOf(at(-0.25, -0.5), zoom))
		succeeds(t, "KeyOf the last place of all", strings.Repeat("3", int(zoom)))(impl.KeyOf(stepped(4194304, 8388607), zoom))
		succeeds(t, "KeyOf the last place of the first row", strings.Repeat("1", int(zoom)))(impl.KeyOf(stepped(-4194304, 8388607), zoom))
	}
	// An east that is nearer to the border than half a step is at its other side.
	succeeds(t, "KeyOf beside the border of the east", strings.Repeat("2", 20))(impl.KeyOf(at(0.25, below(0.5)), 20))
	succeeds(t, "KeyOf beside the middle", "30")(impl.KeyOf(at(-num(1), -num(1)), 2))
	succeeds(t, "KeyOf half a step from the middle", "30")(impl.KeyOf(at(-0.5/16777216, -0.5/16777216), 2))
	succeeds(t, "KeyOf a step from the middle", "03")(impl.KeyOf(stepped(-1, -1), 2))
	succeeds(t, "KeyOf a step below the middle", "12")(impl.KeyOf(stepped(-1, 0), 2))
	succeeds(t, "KeyOf a step left of the middle", "21")(impl.KeyOf(stepped(0, -1), 2))
}

func TestKeyOfFails(t *testing.T) {
	for _, zoom := range []int64{-1, 21, 24, 63, 64, 1 << 32, math.MaxInt64, math.MinInt64} {
		fails[string](t, fmt.Sprint("KeyOf for the zoom ", zoom))(impl.KeyOf(at(0, 0), zoom))
		fails[[]string](t, fmt.Sprint("KeysIn for the zoom ", zoom))(impl.KeysIn(at(0, 0), at(0, 0), zoom))
		fails[string](t, fmt.Sprint("TileKey for the zoom ", zoom))(impl.TileKey(zoom, 0, 0))
	}
	for _, p := range wrongPlaces() {
		for _, zoom := range []int64{0, 1, 20} {
			fails[string](t, fmt.Sprintf("KeyOf %v", p))(impl.KeyOf(p, zoom))
			fails[[]string](t, fmt.Sprintf("KeysIn from %v", p))(impl.KeysIn(p, at(0.25, 0), zoom))
			fails[[]string](t, fmt.Sprintf("KeysIn to %v", p))(impl.KeysIn(at(-0.25, 0), p, zoom))
		}
	}
}

func TestIsKey(t *testing.T) {
	expect(t, "MaxZoom", impl.MaxZoom, 20)
	for _, key := range someKeys() {
		expect(t, "IsKey "+key, impl.IsKey(key), true)
	}
	for _, key := range wrongKeys() {
		expect(t, fmt.Sprintf("IsKey %q", key), impl.IsKey(key), false)
	}
	for b := range 256 {
		expect(t, fmt.Sprint("IsKey of the byte ", b), impl.IsKey(string([]byte{'0', byte(b)})), b >= '0' && b <= '3')
	}
}

// No function takes a text that is no key.
func TestWrongKeys(t *testing.T) {
	for _, key := range wrongKeys() {
		what := fmt.Sprintf(" %q", key)
		failing(t, "KeyTile"+what, saidTwo(impl.KeyTile(key)))
		failing(t, "KeyBox"+what, saidTwo(impl.KeyBox(key)))
		failing(t, "KeyParent"+what, said(impl.KeyParent(key)))
		failing(t, "KeyBeside"+what, said(impl.KeyBeside(key, 0, 0)))
		failing(t, "GatherKeys"+what, said(impl.GatherKeys([]string{key})))
		failing(t, "GatherKeys with"+what, said(impl.GatherKeys([]string{"0", key, "1"})))
		failing(t, "GatherKeys in another one with"+what, said(impl.GatherKeys([]string{"", "0", "01", key})))
	}
}

func TestTiles(t *testing.T) {
	for key, want := range map[string][2]int64{"": {0, 0}, "0": {0, 0}, "1": {1, 0}, "2": {0, 1}, "3": {1, 1}, "31": {3, 2}, "0123": {5, 3}, strings.Repeat("1", 20): {1048575, 0}, strings.Repeat("2", 20): {0, 1048575}, strings.Repeat("3", 20): {1048575, 1048575}, "1" + strings.Repeat("0", 19): {524288, 0}} {
		saidTo(t, "KeyTile "+key, saidTwo(impl.KeyTile(key)), want[0], want[1])
		succeeds(t, fmt.Sprint("TileKey of ", want), key)(impl.TileKey(int64(len(key)), want[0], want[1]))
	}
	for zoom := range int64(21) {
		last := int64(1)<<zoom - 1
		succeeds(t, "TileKey of the last tile", strings.Repeat("3", int(zoom)))(impl.TileKey(zoom, last, last))
		for _, wrong := range []int64{-1, last + 1, -last - 1, math.MaxInt64, math.MinInt64} {
			fails[string](t, fmt.Sprint("TileKey for x ", wrong))(impl.TileKey(zoom, wrong, 0))
			fails[string](t, fmt.Sprint("TileKey for y ", wrong))(impl.TileKey(zoom, 0, wrong))
		}
	}
}

func TestKeyBox(t *testing.T) {
	for key, want := range map[string][4]int64{
		"":                      {-4194304, -8388608, 4194303, 8388607},
		"0":                     {-4194304, -8388608, -1, -1},
		"1":                     {-4194304, 0, -1, 8388607},
		"2":                     {0, -8388608, 4194303, -1},
		"3":                     {0, 0, 4194303, 8388607},
		"30":                    {0, 0, 2097151, 4194303},
		"03":                    {-2097152, -4194304, -1, -1},
		strings.Repeat("0", 20): {-4194304, -8388608, -4194297, -8388593},
		strings.Repeat("3", 20): {4194296, 8388592, 4194303, 8388607},
		strings.Repeat("3", 19): {4194288, 8388576, 4194303, 8388607},
	} {
		saidTo(t, "KeyBox "+key, saidTwo(impl.KeyBox(key)), stepped(want[0], want[1]), stepped(want[2], want[3]))
	}
}

func TestKeyParent(t *testing.T) {
	for key, want := range map[string]string{"0": "", "3": "", "012": "01", strings.Repeat("3", 20): strings.Repeat("3", 19)} {
		succeeds(t, "KeyParent "+key, want)(impl.KeyParent(key))
	}
	fails[string](t, "KeyParent of no letters")(impl.KeyParent(""))
}

func TestKeyBeside(t *testing.T) {
	goes := func(key string, east, north int64, want string) {
		t.Helper()
		succeeds(t, fmt.Sprintf("KeyBeside %s, %d, %d", key, east, north), want)(impl.KeyBeside(key, east, north))
	}
	goes("1", 1, 1, "2")
	goes("0", 1, 0, "1")
	goes("0", -1, 0, "1")
	goes("0", 0, 1, "2")
	goes("31", 1, 0, "20")
	goes("20", -1, 0, "31")
	goes("03", 0, 0, "03")
	goes("03", 3, -1, "00")
	for _, east := range []int64{0, 1, -1, 2, 7, 1000000, -1000000} {
		goes("", east, 0, "")
		fails[string](t, "KeyBeside of no letters, up")(impl.KeyBeside("", east, 1))
		fails[string](t, "KeyBeside of no letters, down")(impl.KeyBeside("", east, -1))
	}
	zeros := strings.Repeat("0", 20)
	goes(zeros, -1, 0, strings.Repeat("1", 20))
	goes(zeros, 1, 1, zeros[:19]+"3")
	end, _ := impl.TileKey(20, 1000000, 1000000)
	goes(zeros, 1000000, 1000000, end)
	goes(end, -1000000, -1000000, zeros)
	goes(end, 1000000, 0, mustKey(t, 20, 2000000-1048576, 1000000))
	goes(zeros, -1000000, 0, mustKey(t, 20, 48576, 0))
	// Around and around, and exactly once around.
	goes("31", 4, 0, "31")
	goes("31", -4, -2, "11")
	goes("31", 999999, 1, "32")
	for _, wrong := range []int64{1000001, -1000001, 1 << 32, math.MaxInt64, math.MinInt64, math.MinInt64 + 1} {
		for _, key := range []string{"", "0", "31", zeros, end} {
			fails[string](t, fmt.Sprintf("KeyBeside %s, %d to the east", key, wrong))(impl.KeyBeside(key, wrong, 0))
			fails[string](t, fmt.Sprintf("KeyBeside %s, %d to the north", key, wrong))(impl.KeyBeside(key, 0, wrong))
		}
	}
	for _, north := range []int64{-3, 2, 4, 1000000, -1000000} {
		fails[string](t, fmt.Sprint("KeyBeside beyond the rows by ", north))(impl.KeyBeside("31", 0, north))
	}
	goes("31", 0, -2, "11")
	goes("31", 0, 1, "33")
}

func mustKey(t *testing.T, zoom, x, y int64) string {
	t.Helper()
	key, ok := impl.TileKey(zoom, x, y)
	if !ok {
		t.Fatalf("TileKey %d, %d, %d fails", zoom, x, y)
	}
	return key
}

func TestKeysIn(t *testing.T) {
	in := func(low, high impl.Place, zoom int64, want ...string) {
		t.Helper()
		saidTo(t, fmt.Sprintf("KeysIn %v, %v, %d", low, high, zoom), said(impl.KeysIn(low, high, zoom)), want)
	}
	in(at(-0.1, -0.1), at(0.1, 0.1), 1, "0", "1", "2", "3")
	in(at(0, 0), at(0, 0), 0, "")
	in(at(-0.25, 0.4), at(0.25, -0.4), 0, "")
	in(at(0.25, 0), at(-0.25, 0), 0, "")
	in(at(0, 0), at(0, 0), 20, "3"+strings.Repeat("0", 19))
	in(at(-0.1, 0.3), at(-0.1, 0.1), 1, "1")
	in(at(-0.1, 0.1), at(-0.1, -0.1), 1, "1", "0")
	in(at(-0.1, 0.1), at(0.1, -0.1), 1, "1", "0", "3", "2")
	// From column 3 on beyond the last one to 1, in two rows.
	in(at(0.01, 0.3), at(0.2, -0.2), 2, "31", "20", "21", "33", "22", "23")
	// All the way around to the column before.
	in(at(0.01, 0.01), at(0.01, -0.01), 2, "30", "31", "20", "21")
	in(at(0.25, 0.4), at(0.25, below(0.5)), 2, "33", "22")
	fails[[]string](t, "KeysIn from above")(impl.KeysIn(at(0.1, 0), at(-0.1, 0), 1))
	fails[[]string](t, "KeysIn from one row above")(impl.KeysIn(stepped(8, 0), stepped(7, 0), 20))
	in(stepped(7, 0), stepped(0, 0), 20, "3"+strings.Repeat("0", 19))
}

// MaxKeys is reached exactly, in columns, in rows and in both, and passed by one.
func TestKeysInHasLimits(t *testing.T) {
	expect(t, "MaxKeys", impl.MaxKeys, 64)
	size := func(zoom, columns, rows, x, y int64) {
		t.Helper()
		low, _, _ := impl.KeyBox(mustKey(t, zoom, x, y))
		high, _, _ := impl.KeyBox(mustKey(t, zoom, (x+columns-1)%(1<<zoom), y+rows-1))
		what := fmt.Sprintf("KeysIn %d columns and %d rows from %d, %d for the zoom %d", columns, rows, x, y, zoom)
		if columns*rows > 64 {
			failing(t, what, said(impl.KeysIn(low, high, zoom)))
			return
		}
		var want []string
		for row := range rows {
			for column := range columns {
				want = append(want, mustKey(t, zoom, (x+column)%(1<<zoom), y+row))
			}
		}
		saidTo(t, what, said(impl.KeysIn(low, high, zoom)), want)
	}
	for _, sides := range [][2]int64{{64, 1}, {65, 1}, {1, 64}, {1, 65}, {8, 8}, {9, 8}, {8, 9}, {16, 4}, {13, 5}, {21, 3}, {22, 3}, {32, 2}, {33, 2}, {1, 1}, {2, 3}} {
		for _, zoom := range []int64{7, 8, 20} {
			last := int64(1)<<zoom - 1
			size(zoom, sides[0], sides[1], 3, 5)
			size(zoom, sides[0], sides[1], last-2, last-sides[1]+1)
			size(zoom, sides[0], sides[1], 0, 0)
		}
	}
	size(3, 8, 8, 0, 0)
	size(3, 8, 8, 5, 0)
	size(6, 64, 1, 17, 63)
	size(4, 16, 4, 15, 12)
	size(20, 1<<20, 1<<20, 0, 0)
	size(20, 1<<20, 1, 7, 0)
	size(20, 1, 1<<20, 7, 0)
	size(4, 16, 16, 3, 0)
}

func TestGatherKeys(t *testing.T) {
	gathers := func(keys string, want ...string) {
		t.Helper()
		list := strings.Split(keys, ",")
		saidTo(t, "GatherKeys "+keys, said(impl.GatherKeys(list)), want)
		slices.Reverse(list)
		saidTo(t, "GatherKeys, the other way round, "+keys, said(impl.GatherKeys(list)), want)
	}
	gathers("00,01,02,03", "0")
	gathers("03,00,02,01,2,21", "0", "2")
	gathers("", "")
	gathers("0", "0")
	gathers("0,1,2,3", "")
	gathers("0,1,2", "0", "1", "2")
	gathers("0,0,0,0", "0")
	gathers("0,1,2,2", "0", "1", "2")
	gathers("01,0,012,2,0,23", "0", "2")
	gathers(",0,12,3", "")
	gathers("0,", "")
	// A key that has been left out leaves no trace: the others of its parent are not gathered.
	gathers("10,11,12,13,1", "1")
	gathers("0,1,2,30,3", "")
	gathers("30,31,32,300", "30", "31", "32")
	gathers("30,31,32,330,331,332", "30", "31", "32", "330", "331", "332")
	// Parents are gathered again, and again.
	gathers("30,31,32,330,331,332,333", "3")
	gathers("0,1,2,30,31,32,330,331,332,333", "")
	gathers("00,01,02,03,1,2,3", "")
	gathers("000,001,002,003,01,02,03,10", "0", "10")
	gathers("20,21,22,230,231,232,233,1,10", "1", "2")
	gathers("0,10,11,12,13,2,30,31,32,33", "")
	// Four in a row that have no parent in common.
	gathers("00,01,02,10", "00", "01", "02", "10")
	gathers("01,02,03,10", "01", "02", "03", "10")
	gathers("0,11,12,13", "0", "11", "12", "13")
	gathers("00,1,2,3", "00", "1", "2", "3")
	gathers("0,1,2,33", "0", "1", "2", "33")
	gathers("000,01,02,03", "000", "01", "02", "03")
	gathers("10,2,1,0", "0", "1", "2")
}

func TestGatherKeysHasLimits(t *testing.T) {
	all := func(zoom int64) []string {
		var keys []string
		for y := range int64(1) << zoom {
			for x := range int64(1) << zoom {
				keys = append(keys, mustKey(t, zoom, x, y))
			}
		}
		return keys
	}
	saidTo(t, "GatherKeys of 64 keys", said(impl.GatherKeys(all(3))), []string{""})
	saidTo(t, "GatherKeys of 63 keys", said(impl.GatherKeys(all(3)[1:])), []string{"001", "002", "003", "01", "02", "03", "1", "2", "3"})
	failing(t, "GatherKeys of 65 keys", said(impl.GatherKeys(append(all(3), "0"))))
	failing(t, "GatherKeys of 65 equal keys", said(impl.GatherKeys(slices.Repeat([]string{""}, 65))))
	saidTo(t, "GatherKeys of 64 equal keys", said(impl.GatherKeys(slices.Repeat([]string{"12"}, 64))), []string{"12"})
	failing(t, "GatherKeys of none", said(impl.GatherKeys(nil)))
	failing(t, "GatherKeys of none", said(impl.GatherKeys([]string{})))
	// Four keys of MaxZoom letters, and so on up to no letters.
	var deep []string
	for zoom := range 20 {
		for _, letter := range []string{"0", "1", "2"} {
			deep = append(deep, strings.Repeat("3", zoom)+letter)
		}
	}
	saidTo(t, "GatherKeys of keys of all zooms but one", said(impl.GatherKeys(deep)), slices.Sorted(slices.Values(deep)))
	saidTo(t, "GatherKeys of keys of all zooms", said(impl.GatherKeys(append(deep, strings.Repeat("3", 20)))), []string{""})
}

// gatheredByHand gathers keys in another order: the longest ones first.
func gatheredByHand(keys []string) []string {
	there := map[string]bool{}
	for _, key := range keys {
		isInner := func(other string) bool { return other != key && strings.HasPrefix(key, other) }
		there[key] = !slices.ContainsFunc(keys, isInner)
	}
	for zoom := 19; zoom >= 0; zoom-- {
		for _, key := range keys {
			if len(key) <= zoom {
				continue
			}
			parent := key[:zoom]
			if there[parent+"0"] && there[parent+"1"] && there[parent+"2"] && there[parent+"3"] {
				for _, letter := range "0123" {
					there[parent+string(letter)] = false
				}
				there[parent] = true
			}
		}
	}
	var list []string
	for key, is := range there {
		if is {
			list = append(list, key)
		}
	}
	slices.Sort(list)
	return list
}

func TestGatheredKeys(t *testing.T) {
	for seed := range 400 {
		var keys []string
		for i, z := range tangle(1+seed%64, seed) {
			zoom := 1 + (seed+i)%(2+seed%3)
			x, y := int64(real(z)*1000)%(1<<zoom), int64(imag(z)*1000)%(1<<zoom)
			keys = append(keys, mustKey(t, int64(zoom), x, y))
		}
		got, ok := impl.GatherKeys(keys)
		if want := gatheredByHand(keys); !ok || !slices.Equal(got, want) {
			t.Errorf("GatherKeys %q: got %q, want %q", keys, got, want)
		}
		saidTo(t, "GatherKeys of what is gathered", said(impl.GatherKeys(got)), got)
	}
}
