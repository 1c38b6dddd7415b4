package tests

import (
	"fmt"
	"strings"
	"testing"

	"loop.example/g01341/impl"
)

// withCheck returns bytes with their check number behind them.
func withCheck(bytes string) string {
	check, _ := impl.CheckOf(0, bytes)
	return bytes + string([]byte{byte(check), byte(check >> 8)})
}

// storedByHand returns the bytes of a track with this name and these packed places, valid or not.
func storedByHand(name, packed string) string {
	return withCheck("TRK2" + string([]byte{byte(len(name))}) + name + string([]byte{byte(len(packed)), byte(len(packed) >> 8)}) + packed)
}

// someTracks are valid tracks with short and long names, and with one place, with few and with MaxPlaces.
func someTracks() []impl.Track {
	list := []impl.Track{track("a", at(0, 0)), track("abcdefgh", at(0.25, -0.5)), track("z", make([]impl.Place, 64)...), track("zzzzzzzz", wandering(64, 2)...), track("track", stepped(-1, 64), stepped(0, 0))}
	for seed := range 30 {
		list = append(list, track("trackers"[seed%7:][:1+seed%2], wandering(1+seed%12, seed)...))
	}
	return list
}

func TestValidTracks(t *testing.T) {
	for i, one := range someTracks() {
		expect(t, fmt.Sprint("ValidTrack of the track ", i), impl.ValidTrack(one), true)
	}
	for i, one := range wrongTracks() {
		what := fmt.Sprintf(" wrong track %d, %q", i, one.Name)
		expect(t, "ValidTrack of the"+what, impl.ValidTrack(one), false)
		fails[string](t, "StoreTrack of the"+what)(impl.StoreTrack(one))
		fails[string](t, "StoreTracks of the"+what)(impl.StoreTracks([]impl.Track{one}))
		fails[string](t, "StoreTracks with the"+what)(impl.StoreTracks([]impl.Track{track("a", at(0, 0)), one}))
	}
}

func TestSameTracks(t *testing.T) {
	a, b := track("a", at(0, 0), at(0.1, 0.2)), track("b", at(0, 0))
	same := func(want bool, x, y []impl.Track) {
		t.Helper()
		expect(t, fmt.Sprintf("SameTracks %v, %v", x, y), impl.SameTracks(x, y), want)
		expect(t, fmt.Sprintf("SameTracks %v, %v", y, x), impl.SameTracks(y, x), want)
	}
	list := func(tracks ...impl.Track) []impl.Track { return tracks }
	same(true, nil, list())
	same(true, list(a, b), list(a, b))
	same(true, list(track("a")), list(impl.Track{Name: "a", Places: []impl.Place{}}))
	same(false, list(a, b), list(b, a))
	same(false, list(a), list(a, a))
	same(false, list(a), nil)
	same(false, list(a), list(track("aa", a.Places...)))
	same(false, list(a), list(track("", a.Places...)))
	same(false, list(a), list(track("a", at(0, 0))))
	same(false, list(a), list(track("a", at(0.1, 0.2), at(0, 0))))
	same(false, list(a), list(track("a", at(0, 0), at(0.1, 0.25))))
	// Zeros are told apart by their signs, and all not-a-numbers are the same; tracks need not be valid.
	same(false, list(b), list(track("b", at(minusZero(), 0))))
	same(false, list(b), list(track("b", at(0, minusZero()))))
	same(true, list(track("b", at(0, minusZero()))), list(track("b", at(0, minusZero()))))
	same(true, list(track("X!", at(num(0x7fc00000), 9))), list(track("X!", at(num(0xffffffff), 9))))
	same(false, list(track("X!", at(num(0x7fc00000), 9))), list(track("X?", at(num(0x7fc00000), 9))))
	many := make([]impl.Track, 1000)
	same(true, many, make([]impl.Track, 1000))
	same(false, many, make([]impl.Track, 999))
	same(true, wrongTracks(), wrongTracks())
	for i, x := range someTracks() {
		for k, y := range someTracks() {
			same(tell(x) == tell(y), list(x), list(y))
			expect(t, "SameTracks of one and itself", impl.SameTracks(list(x), list(x)), true)
			if i != k && i < 5 && k < 5 {
				same(false, list(x), list(y))
			}
		}
	}
}

func TestStoreTrack(t *testing.T) {
	succeeds(t, "StoreTrack", storedByHand("a", "\x00\x00"))(impl.StoreTrack(track("a", at(0, 0))))
	succeeds(t, "StoreTrack of a long name", storedByHand("abcdefgh", "\x01\x80\x01"))(impl.StoreTrack(track("abcdefgh", stepped(-1, 64))))
	stored, ok := impl.StoreTrack(track("a", at(0, 0)))
	if !ok || stored[:10] != "TRK2\x01a\x02\x00\x00\x00" || len(stored) != 12 {
		t.Errorf("StoreTrack: got %x", stored)
	}
	// The length of the places has two bytes, the least one first.
	far := track("far")
	for i := range 64 {
		far.Places = append(far.Places, []impl.Place{stepped(-4194304, -8388608), stepped(4194304, 8388607)}[i%2])
	}
	packed, _ := impl.PackPlaces(far.Places)
	succeeds(t, "StoreTrack of the most bytes", storedByHand("far", packed))(impl.StoreTrack(far))
	stored, _ = impl.StoreTrack(far)
	expect(t, "the bytes of lengths", stored[4:10], "\x03far\x00\x02")
	expect(t, "the most bytes", len(stored), 524)
	succeeds(t, "LoadTrack of the most bytes", far)(impl.LoadTrack(stored))
	for _, one := range someTracks() {
		packed, _ := impl.PackPlaces(one.Places)
		succeeds(t, "StoreTrack of "+one.Name, storedByHand(one.Name, packed))(impl.StoreTrack(one))
	}
}

// notTracks are no bytes of a track, though most of them have a right check number.
func notTracks() []string {
	zero := "\x00\x00"
	list := []string{"", "T", "TRK2", "TRK2\x01", "TRK2\x01a\x02", withCheck(""), withCheck("TRK2"), withCheck("TRK2\x01a"), withCheck("TRK2\x01a\x00\x00")}
	for _, name := range []string{"", "A", "a1", "abcdefghi", "\x00", "é", "aé", "a b", strings.Repeat("a", 200)} {
		list = append(list, storedByHand(name, zero))
	}
	for _, packed := range []string{"", "\x00", "\x80\x00\x00", "\x00\x80\x00", "\x00\x00\x00", "\x00\x00\x80", "\x82\x80\x80\x04\x00", strings.Repeat(zero, 65), strings.Repeat(zero, 30000), strings.Repeat("\xff", 60000)} {
		list = append(list, storedByHand("a", packed))
	}
	for _, mark := range []string{"TRK1", "TRK3", "trk2", "TRK\x02", "TRL2", "XRK2", "TXK2"} {
		list = append(list, withCheck(mark+"\x01a\x02\x00\x00\x00"))
	}
	// Lengths that tell less or more than there is.
	for _, head := range []string{"\x00a\x02\x00", "\x02a\x02\x00", "\xffa\x02\x00", "\x01a\x01\x00", "\x01a\x03\x00", "\x01a\x00\x02", "\x01a\x02\x01", "\x01a\xff\xff", "\x01a\x00\x00", "\x01a\x04\x00"} {
		list = append(list, withCheck("TRK2"+head+zero))
	}
	return list
}

func TestLoadTrackFails(t *testing.T) {
	for _, s := range notTracks() {
		fails[impl.Track](t, fmt.Sprintf("LoadTrack %x", s))(impl.LoadTrack(s))
		saidTo(t, fmt.Sprintf("RecoverTracks %x", s), saidTwo(impl.RecoverTracks(s)), []impl.Track(nil), int64(0))
	}
	stored, _ := impl.StoreTrack(track("ab", stepped(5, 7), stepped(0, -1000)))
	for cut := range len(stored) {
		fails[impl.Track](t, fmt.Sprintf("LoadTrack of %d bytes", cut))(impl.LoadTrack(stored[:cut]))
		fails[impl.Track](t, fmt.Sprintf("LoadTrack from byte %d on", cut+1))(impl.LoadTrack(stored[cut+1:]))
		for b := range 256 {
			if byte(b) != stored[cut] {
				fails[impl.Track](t, fmt.Sprintf("LoadTrack with another byte %d, %d", cut, b))(impl.LoadTrack(stored[:cut] + string([]byte{byte(b)}) + stored[cut+1:]))
			}
		}
	}
	for _, more := range []string{"\x00", "x", "TRK2", stored} {
		fails[impl.Track](t, fmt.Sprintf("LoadTrack that goes on with %q", more))(impl.LoadTrack(stored + more))
		fails[impl.Track](t, fmt.Sprintf("LoadTrack that begins with %q", more))(impl.LoadTrack(more + stored))
	}
}

func TestStoreTracks(t *testing.T) {
	list := someTracks()
	all := ""
	for n := range 9 {
		succeeds(t, fmt.Sprint("StoreTracks of tracks ", n), all)(impl.StoreTracks(list[:n]))
		saidTo(t, fmt.Sprint("RecoverTracks of tracks ", n), saidTwo(impl.RecoverTracks(all)), list[:n], int64(len(all)))
		one, _ := impl.StoreTrack(list[n])
		all += one
	}
	fails[string](t, "StoreTracks of 9 tracks")(impl.StoreTracks(list[:9]))
	eight, _ := impl.StoreTracks(list[:8])
	saidTo(t, "RecoverTracks of 9 tracks", saidTwo(impl.RecoverTracks(all)), list[:8], int64(len(eight)))
	same := []impl.Track{list[0], list[0], list[0]}
	stored, ok := impl.StoreTracks(same)
	expect(t, "StoreTracks of equal tracks", ok, true)
	saidTo(t, "RecoverTracks of equal tracks", saidTwo(impl.RecoverTracks(stored)), same, int64(36))
}

// What comes behind whole tracks, and tracks that are damaged, are left out with all that follows.
func TestRecoverTracks(t *testing.T) {
	list := []impl.Track{track("one", stepped(5, 7), stepped(0, -1000)), track("b", at(0, 0)), track("three", stepped(4194304, 8388607))}
	all, _ := impl.StoreTracks(list)
	ends := []int{0}
	for n := range list {
		stored, _ := impl.StoreTracks(list[:n+1])
		ends = append(ends, len(stored))
	}
	whole := func(bytes int) int {
		n := 0
		for n < len(list) && ends[n+1] <= bytes {
			n++
		}
		return n
	}
	for cut := range len(all) + 1 {
		n := whole(cut)
		saidTo(t, fmt.Sprintf("RecoverTracks of %d bytes", cut), saidTwo(impl.RecoverTracks(all[:cut])), list[:n], int64(ends[n]))
		if cut == len(all) {
			continue
		}
		for _, b := range []byte{1, 128, 255} {
			damaged := all[:cut] + string([]byte{all[cut] ^ b}) + all[cut+1:]
			saidTo(t, fmt.Sprintf("RecoverTracks with another byte %d", cut), saidTwo(impl.RecoverTracks(damaged)), list[:n], int64(ends[n]))
		}
	}
	for _, more := range append(notTracks(), "\x00", "x", "TRK", "TRK2\x01a\x02\x00\x00\x00") {
		saidTo(t, fmt.Sprintf("RecoverTracks that goes on with %x", more), saidTwo(impl.RecoverTracks(all+more)), list, int64(len(all)))
		if more != "" {
			saidTo(t, fmt.Sprintf("RecoverTracks that begins with %x", more), saidTwo(impl.RecoverTracks(more+all)), []impl.Track(nil), int64(0))
		}
	}
	saidTo(t, "RecoverTracks of no bytes", saidTwo(impl.RecoverTracks("")), []impl.Track(nil), int64(0))
}
