package flow

import (
	"math"
	"slices"
	"testing"

	"pomander/api"
)

// wrongNumbers are numbers far from those that may be.
var wrongNumbers = []int{-1, -2, -32, 1 << 32, 1<<32 + 1, 1 << 58, math.MaxInt, math.MinInt, math.MinInt + 1}

func TestNew(t *testing.T) { // P12.1
	for _, frames := range []int{1, 2, 31, 32} {
		for _, sectors := range []int{1, 3, 32} {
			for _, most := range []int{1, 2, highest - 1, highest} {
				f, of := made(t, form(frames, sectors), most), form(frames, sectors)
				if got := all(f); len(got) != 0 || !slices.Equal(f.Sets(), []uint32{0}) {
					t.Errorf("New(%v, %d) has %v and keeps %v", of, most, got, f.Sets())
				}
			}
		}
	}
	holds(t, made(t, form(1, 1), 1), form(1, 1), nil, nil)
	holds(t, made(t, form(32, 32), 9), form(32, 32), nil, nil)
	holds(t, made(t, form(2, 5), 9), form(2, 5), nil, nil)
}

func TestNewRefuses(t *testing.T) { // P12.1
	refuses := func(f api.Form, most int) {
		if made, errno := New(f, most); made != nil || errno != api.ErrArg {
			t.Errorf("New(%v, %d) is %v, %v", f, most, made, errno)
		}
	}
	for _, pages := range append([]int{0, 33, 34, 64}, wrongNumbers...) {
		for _, most := range []int{1, 9, highest, 0, highest + 1} {
			refuses(form(pages, 1), most)
			refuses(form(1, pages), most)
			refuses(form(pages, pages), most)
		}
	}
	for _, most := range append([]int{0, highest + 1, highest + 2, 1 << 17}, wrongNumbers...) {
		refuses(form(1, 1), most)
		refuses(form(32, 32), most)
	}
}

func TestGetAndMarkAtTheEdges(t *testing.T) { // P12.1
	for _, of := range []api.Form{form(1, 1), form(2, 3), form(32, 32)} {
		for _, p := range edges(of) {
			f := made(t, of, 3)
			mark(t, f, p, 1, 9)
			holds(t, f, of, []uint32{9}, map[api.Place]uint32{p: 9})
			mark(t, f, p, 1, highestSet)
			holds(t, f, of, []uint32{9, highestSet}, map[api.Place]uint32{p: highestSet})
			mark(t, f, p, 1, 0)
			holds(t, f, of, []uint32{9, highestSet}, nil)
		}
	}
}

// TestPlacesStandApart: each place of the edges has a set of its own.
func TestPlacesStandApart(t *testing.T) { // P12.1, P12.3
	of := form(2, 2)
	f, sets := made(t, of, highest), map[api.Place]uint32{}
	var kept []uint32
	for n, p := range edges(of) {
		mark(t, f, p, 1, uint32(n+1))
		sets[p] = uint32(n + 1)
		kept = append(kept, uint32(n+1))
	}
	holds(t, f, of, kept, sets)
}

func TestPlacesThatMayNotBe(t *testing.T) { // P12.1, P12.2
	for _, of := range []api.Form{form(1, 1), form(2, 1), form(1, 2), form(32, 32)} {
		f := made(t, of, 9)
		mark(t, f, reg(1), 1, 5)
		for _, p := range noPlaces(of) {
			if set, errno := f.Get(p); set != 0 || errno != api.ErrArg {
				t.Errorf("%v: Get(%v) is %d, %v", of, p, set, errno)
			}
			for _, n := range []int{0, 1, 2, -1, highest, highest + 1, math.MaxInt, math.MinInt} {
				for _, set := range []uint32{0, 5, 6, 1 << 16} {
					if errno := f.Mark(p, n, set); errno != api.ErrArg {
						t.Errorf("%v: Mark(%v, %d, %d) is %v", of, p, n, set, errno)
					}
				}
			}
			touches := [][]api.Touch{{touch(reg(2), p)}, {touch(reg(2), reg(1), p)}, {touch(reg(2), p, reg(1))}, {decided(p)}, {decided(reg(1), p, reg(1))}}
			if p != (api.Place{}) {
				touches = append(touches, []api.Touch{touch(p)}, []api.Touch{touch(p, reg(1))})
			}
			for _, l := range touches {
				refusesBoth(t, f, l)
			}
		}
		holds(t, f, of, []uint32{5}, map[api.Place]uint32{reg(1): 5})
	}
}

// refusesBoth fails where touches with one that may not be are not refused as such, alone and ahead of and behind others.
func refusesBoth(t *testing.T, f *Flow, l []api.Touch) {
	t.Helper()
	may := []api.Touch{touch(reg(3), reg(1)), decided(reg(1))}
	for _, l := range [][]api.Touch{l, slices.Concat(may, l), slices.Concat(l, may), slices.Concat(may, l, may)} {
		refusesApply(t, f, api.ErrArg, l...)
		if set, errno := f.Decides(l...); set != 0 || errno != api.ErrArg {
			t.Errorf("Decides(%v) is %d, %v", l, set, errno)
		}
	}
}

func TestMarkOfSeveral(t *testing.T) { // P12.1
	of := form(3, 2)
	for _, row := range []struct {
		place api.Place
		n     int
	}{
		{mem(0), 0}, {mem(191), 0}, {mem(60), 8}, {mem(63), 2}, {mem(0), 64}, {mem(0), 192}, {mem(191), 1}, {mem(128), 64}, {mem(1), 190},
		{sector(0), 0}, {sector(127), 1}, {sector(62), 4}, {sector(0), 128}, {sector(64), 64},
		{reg(0), 8}, {reg(7), 0}, {reg(7), 1}, {reg(3), 5}, {reg(3), 4},
		{place(api.PlaceTlb, 0), 4}, {place(api.PlaceTlb, 3), 1}, {place(api.PlaceAsk, 0), 2}, {place(api.PlaceAsk, 1), 1},
		{place(api.PlacePc, 0), 1}, {place(api.PlacePc, 0), 0}, {place(api.PlaceAlarm, 0), 1},
		{in(0), 3}, {in(63), 2}, {in(counts - 1), 1}, {in(counts - 1), 0}, {place(api.PlaceOut, counts-5), 5}, {place(api.PlaceSent, 70), 200}, {place(api.PlacePacket, 64), 64},
	} {
		f, sets := made(t, of, 4), map[api.Place]uint32{}
		mark(t, f, row.place, row.n, 6)
		for at := range row.n {
			sets[place(row.place.Kind, row.place.N+at)] = 6
		}
		holds(t, f, of, []uint32{6}, sets)
		mark(t, f, row.place, row.n/2, 3)
		for at := range row.n / 2 {
			sets[place(row.place.Kind, row.place.N+at)] = 3
		}
		holds(t, f, of, []uint32{6, 3}, sets)
		mark(t, f, row.place, row.n, 0)
		holds(t, f, of, []uint32{6, 3}, nil)
	}
}

func TestMarkOfMost(t *testing.T) { // P12.1
	of := form(1, 1)
	for _, kind := range []api.PlaceKind{api.PlaceIn, api.PlaceOut, api.PlacePacket, api.PlaceSent} {
		for _, first := range []int{0, 1, highest, counts - highest} {
			f := made(t, of, 2)
			for n, wanted := range map[int]api.Errno{highest + 1: api.ErrRange, 1 << 17: api.ErrRange, highest: api.OK} {
				if errno := f.Mark(place(kind, first), n, 1<<15); errno != wanted {
					t.Errorf("Mark(%d %d, %d) is %v", kind, first, n, errno)
				}
			}
			next := first
			for p, set := range f.All() {
				if p != place(kind, next) || set != 1<<15 {
					t.Fatalf("All tells %v, %d, not %d %d", p, set, kind, next)
				}
				next++
			}
			if next != first+highest {
				t.Errorf("All ends ahead of %d, not %d", next, first+highest)
			}
		}
	}
}

func TestMarkBeyond(t *testing.T) { // P12.1
	of := form(2, 1)
	for _, most := range []int{1, 2, 9} { // also where the set could not be kept
		f := made(t, of, most)
		for _, set := range []uint32{0, 1, highestSet} {
			for _, row := range []struct {
				place api.Place
				n     []int
			}{
				{mem(0), []int{129, 130, highest}}, {mem(64), []int{65, 128}}, {mem(127), []int{2, 64}},
				{sector(0), []int{65, 128}}, {sector(63), []int{2}},
				{reg(0), []int{9, 64}}, {reg(7), []int{2}}, {reg(1), []int{8}},
				{place(api.PlaceTlb, 0), []int{5}}, {place(api.PlaceTlb, 3), []int{2}}, {place(api.PlaceAsk, 0), []int{3}}, {place(api.PlaceAsk, 1), []int{2}},
				{place(api.PlacePc, 0), []int{2, 64}}, {place(api.PlaceEpc, 0), []int{2}}, {place(api.PlaceCause, 0), []int{2}}, {place(api.PlaceVec, 0), []int{2}},
				{place(api.PlaceTable, 0), []int{2}}, {place(api.PlaceMode, 0), []int{2}}, {place(api.PlaceMask, 0), []int{2}}, {place(api.PlaceAlarm, 0), []int{2}},
				{in(counts - 1), []int{2, highest}}, {place(api.PlaceOut, counts-highest+1), []int{highest}},
				{place(api.PlacePacket, counts-2), []int{3}}, {place(api.PlaceSent, counts-9), []int{10}},
			} {
				for _, n := range append(row.n, append([]int{highest + 1, highest + 2}, wrongNumbers...)...) {
					if errno := f.Mark(row.place, n, set); errno != api.ErrRange {
						t.Errorf("bound %d: Mark(%v, %d, %d) is %v", most, row.place, n, set, errno)
					}
				}
			}
		}
		holds(t, f, of, nil, nil)
	}
}

func TestMarkOfNoSet(t *testing.T) { // P12.1
	for _, most := range []int{1, 9} {
		f := made(t, form(1, 1), most)
		for _, set := range noSets {
			for _, n := range []int{0, 1, 2, 65, -1, highest + 1, math.MinInt} { // ahead of a number that may not be
				for _, p := range []api.Place{mem(0), mem(63), reg(7), in(3)} {
					if errno := f.Mark(p, n, set); errno != api.ErrArg {
						t.Errorf("Mark(%v, %d, %d) is %v", p, n, set, errno)
					}
				}
			}
		}
		holds(t, f, form(1, 1), nil, nil)
	}
}

func TestMarkKeeps(t *testing.T) { // P12.1, P12.5
	of := form(1, 1)
	f := made(t, of, 4)
	mark(t, f, mem(3), 0, 0)
	holds(t, f, of, nil, nil)
	mark(t, f, mem(3), 0, 8) // of no places too
	holds(t, f, of, []uint32{8}, nil)
	mark(t, f, in(0), 2, 3)
	mark(t, f, reg(0), 1, 8)
	mark(t, f, reg(1), 0, 1)
	sets := map[api.Place]uint32{in(0): 3, in(1): 3, reg(0): 8}
	holds(t, f, of, []uint32{8, 3, 1}, sets)
	for _, n := range []int{0, 1, 2} { // full
		for _, set := range []uint32{2, 9, 11, highestSet} {
			for _, p := range []api.Place{mem(0), reg(0), in(0)} {
				if errno := f.Mark(p, n, set); errno != api.ErrFull {
					t.Errorf("Mark(%v, %d, %d) is %v", p, n, set, errno)
				}
			}
		}
	}
	holds(t, f, of, []uint32{8, 3, 1}, sets)
	mark(t, f, in(1), 2, 8) // what is kept already goes
	mark(t, f, reg(0), 1, 0)
	holds(t, f, of, []uint32{8, 3, 1}, map[api.Place]uint32{in(0): 3, in(1): 8, in(2): 8})
}

// TestTheLeastBound: where just the empty set may be kept, it still goes everywhere.
func TestTheLeastBound(t *testing.T) { // P12.1, P12.2, P12.5
	of := form(1, 1)
	f := made(t, of, 1)
	for _, p := range edges(of) {
		mark(t, f, p, 1, 0)
		apply(t, f, touch(p, p, reg(0)), touch(p), decided(p))
		if errno := f.Mark(p, 1, 1); errno != api.ErrFull {
			t.Errorf("Mark(%v, 1, 1) is %v", p, errno)
		}
	}
	holds(t, f, of, nil, nil)
}

func TestTheHighestBound(t *testing.T) { // P12.1, P12.5
	f := made(t, form(1, 1), highest)
	short := made(t, form(1, 1), highest-1)
	for set := range uint32(highest - 1) {
		mark(t, f, in(int(set)), 1, set)
		mark(t, short, in(int(set)), 1, set)
	}
	apply(t, f, touch(reg(0), in(highest-2), in(1))) // all labels
	if set, errno := f.Get(reg(0)); set != highestSet || errno != api.OK || len(f.Sets()) != highest {
		t.Errorf("Get is %d, %v, of %d sets", set, errno, len(f.Sets()))
	}
	refusesApply(t, short, api.ErrFull, touch(reg(0), in(highest-2), in(1)))
	if set, errno := short.Get(reg(0)); set != 0 || errno != api.OK || len(short.Sets()) != highest-1 {
		t.Errorf("Get is %d, %v, of %d sets", set, errno, len(short.Sets()))
	}
}

func TestExample(t *testing.T) { // P12.1, P12.2, P12.3
	of := form(1, 1)
	f := made(t, of, 4)
	mark(t, f, in(0), 2, 1)
	apply(t, f, touch(reg(1), in(0)), touch(mem(5), reg(1)))
	sets := map[api.Place]uint32{in(0): 1, in(1): 1, reg(1): 1}
	holds(t, f, of, []uint32{1}, sets)
	apply(t, f, touch(mem(5), reg(1)))
	sets[mem(5)] = 1
	holds(t, f, of, []uint32{1}, sets)
	apply(t, f, touch(mem(5)))
	delete(sets, mem(5))
	holds(t, f, of, []uint32{1}, sets)
}

// start is a flow with the labels 0 and 1 in register 1, 2 in register 2, 3 in a byte.
func start(t *testing.T, most int) *Flow {
	t.Helper()
	f := made(t, form(2, 2), most)
	mark(t, f, reg(1), 1, 3)
	mark(t, f, reg(2), 1, 4)
	mark(t, f, mem(64), 1, 8)
	return f
}

// startSets are its sets, with others in place of some.
func startSets(others map[api.Place]uint32) map[api.Place]uint32 {
	sets := map[api.Place]uint32{reg(1): 3, reg(2): 4, mem(64): 8}
	for p, set := range others {
		sets[p] = set
	}
	return sets
}

func TestApply(t *testing.T) { // P12.2
	for name, row := range map[string]struct {
		touches []api.Touch
		kept    []uint32 // behind 3, 4, 8
		sets    map[api.Place]uint32
	}{
		"none":                          {nil, nil, nil},
		"from nothing":                  {[]api.Touch{touch(reg(1))}, nil, map[api.Place]uint32{reg(1): 0}},
		"from nothing, an empty list":   {[]api.Touch{{To: mem(64), From: []api.Place{}}}, nil, map[api.Place]uint32{mem(64): 0}},
		"from itself":                   {[]api.Touch{touch(reg(1), reg(1))}, nil, nil},
		"from itself and another":       {[]api.Touch{touch(reg(1), reg(1), reg(2))}, []uint32{7}, map[api.Place]uint32{reg(1): 7}},
		"from one twice":                {[]api.Touch{touch(reg(3), reg(2), reg(2))}, nil, map[api.Place]uint32{reg(3): 4}},
		"from three: just all together": {[]api.Touch{touch(reg(3), reg(1), reg(2), mem(64))}, []uint32{15}, map[api.Place]uint32{reg(3): 15}},
		"from places without sets":      {[]api.Touch{touch(reg(1), reg(5), mem(0), in(9))}, nil, map[api.Place]uint32{reg(1): 0}},
		"two change places": {[]api.Touch{touch(reg(1), reg(2)), touch(reg(2), reg(1))}, nil,
			map[api.Place]uint32{reg(1): 4, reg(2): 3}},
		"a ring": {[]api.Touch{touch(reg(1), mem(64)), touch(reg(2), reg(1)), touch(mem(64), reg(2))}, nil,
			map[api.Place]uint32{reg(1): 8, reg(2): 3, mem(64): 4}},
		"a chain is no chain": {[]api.Touch{touch(reg(3), reg(1)), touch(reg(4), reg(3)), touch(reg(5), reg(4), reg(2))}, nil,
			map[api.Place]uint32{reg(3): 3, reg(5): 4}},
		"what is emptied is read": {[]api.Touch{touch(reg(1)), touch(reg(3), reg(1))}, nil,
			map[api.Place]uint32{reg(1): 0, reg(3): 3}},
		"to one twice": {[]api.Touch{touch(reg(3), reg(1), reg(2)), touch(reg(3), reg(1), mem(64))}, []uint32{7, 11},
			map[api.Place]uint32{reg(3): 11}},
		"to one three times, at last from nothing": {[]api.Touch{touch(mem(0), mem(64), reg(1)), touch(reg(3), reg(1)), touch(mem(0), reg(2)), touch(mem(0))}, []uint32{11},
			map[api.Place]uint32{reg(3): 3}},
		"to one twice, from itself": {[]api.Touch{touch(reg(1), mem(64)), touch(reg(1), reg(1), reg(2))}, []uint32{7},
			map[api.Place]uint32{reg(1): 7}},
		"kept in the touches' order": {[]api.Touch{touch(sector(127), mem(64), reg(2)), touch(reg(0), reg(1), mem(64)), touch(in(0), reg(1), reg(2))}, []uint32{12, 11, 7},
			map[api.Place]uint32{sector(127): 12, reg(0): 11, in(0): 7}},
		"what decides is not kept": {[]api.Touch{decided(reg(1), reg(2)), touch(reg(3), reg(2)), decided(mem(64), reg(1)), decided()}, nil,
			map[api.Place]uint32{reg(3): 4}},
		"just what decides": {[]api.Touch{decided(reg(1), reg(2), mem(64))}, nil, nil},
	} {
		f := start(t, 64)
		apply(t, f, row.touches...)
		t.Run(name, func(t *testing.T) {
			holds(t, f, form(2, 2), append([]uint32{3, 4, 8}, row.kept...), startSets(row.sets))
		})
	}
}

// TestApplyEverywhere: each place takes a set from each other one.
func TestApplyEverywhere(t *testing.T) { // P12.2
	of := form(2, 2)
	for _, from := range edges(of) {
		for _, to := range edges(of) {
			f := made(t, of, 2)
			mark(t, f, from, 1, 1<<15)
			apply(t, f, touch(to, from))
			if got, wanted := all(f), inOrder(map[api.Place]uint32{from: 1 << 15, to: 1 << 15}); !slices.Equal(got, wanted) {
				t.Errorf("%v from %v: All is %v", to, from, got)
			}
			apply(t, f, touch(from))
			if got, errno := f.Get(from); got != 0 || errno != api.OK {
				t.Errorf("%v from nothing: %d, %v", from, got, errno)
			}
		}
	}
}

func TestApplyRefusesBehindOthers(t *testing.T) { // P12.2: nothing is kept then
	for _, wrong := range []api.Touch{touch(reg(8)), touch(reg(3), mem(128)), touch(place(api.PlaceNone, 1), reg(1)), touch(place(api.PlaceNone, -1)), decided(sector(128)), decided(reg(1), place(api.PlaceNone, 0)), touch(place(18, 0))} {
		others := []api.Touch{touch(reg(3), reg(1), reg(2)), touch(mem(1), mem(64), reg(2)), decided(reg(1))}
		for at := range len(others) + 1 {
			for _, most := range []int{4, 64} { // ErrArg is ahead of ErrFull
				f := start(t, most)
				refusesApply(t, f, api.ErrArg, slices.Insert(slices.Clone(others), at, wrong)...)
				holds(t, f, form(2, 2), []uint32{3, 4, 8}, startSets(nil))
			}
		}
	}
}

func TestApplyFull(t *testing.T) { // P12.2, P12.5
	l := []api.Touch{decided(reg(1), reg(2), mem(64)), touch(reg(3), reg(1), reg(2)), touch(reg(1), reg(2)), touch(mem(0), reg(1), mem(64)), touch(reg(2)), touch(mem(0), reg(2), mem(64)), touch(in(5), reg(3))}
	for most, kept := range map[int][]uint32{4: nil, 5: {7}, 6: {7, 11}} {
		f := start(t, most)
		for range 2 { // and is so again
			refusesApply(t, f, api.ErrFull, l...)
			holds(t, f, form(2, 2), append([]uint32{3, 4, 8}, kept...), startSets(nil))
		}
	}
	f := start(t, 7)
	apply(t, f, l...)
	holds(t, f, form(2, 2), []uint32{3, 4, 8, 7, 11, 12}, startSets(map[api.Place]uint32{reg(3): 7, reg(1): 4, mem(0): 12, reg(2): 0}))
}

// TestApplyFullAtOne: sets are full at the first, a middle, the last touch; touches ahead of it whose sets are kept change nothing.
func TestApplyFullAtOne(t *testing.T) { // P12.2, P12.5
	fits := []api.Touch{touch(reg(3), reg(1)), touch(reg(1)), touch(mem(64), reg(2)), touch(sector(0), mem(64))}
	for at := range len(fits) + 1 {
		f := start(t, 4)
		refusesApply(t, f, api.ErrFull, slices.Insert(slices.Clone(fits), at, touch(reg(0), reg(1), reg(2)))...)
		holds(t, f, form(2, 2), []uint32{3, 4, 8}, startSets(nil))
	}
	f := start(t, 4)
	apply(t, f, fits...)
	holds(t, f, form(2, 2), []uint32{3, 4, 8}, map[api.Place]uint32{reg(2): 4, reg(3): 3, mem(64): 4, sector(0): 8})
}

func TestDecides(t *testing.T) { // P12.2
	for name, row := range map[string]struct {
		touches []api.Touch
		wanted  uint32
	}{
		"none":                   {nil, 0},
		"no touch that decides":  {[]api.Touch{touch(reg(3), reg(1)), touch(reg(1))}, 0},
		"of nothing":             {[]api.Touch{decided()}, 0},
		"of a place without":     {[]api.Touch{decided(reg(3), mem(63))}, 0},
		"of one":                 {[]api.Touch{decided(reg(1))}, 3},
		"of all of its From":     {[]api.Touch{decided(reg(3), reg(2), mem(64))}, 12},
		"of several touches":     {[]api.Touch{decided(reg(1)), decided(), decided(mem(64)), decided(reg(1))}, 11},
		"between others":         {[]api.Touch{touch(reg(3), reg(1)), decided(mem(64)), touch(mem(0), reg(2)), decided(reg(3))}, 8},
		"not of what is then":    {[]api.Touch{touch(reg(3), reg(1)), decided(reg(3))}, 0},
		"of what was ahead":      {[]api.Touch{touch(reg(1)), decided(reg(1))}, 3},
		"together a set not had": {[]api.Touch{decided(reg(1), reg(2)), decided(mem(64))}, 15},
	} {
		for _, most := range []int{4, 64} { // full or not: nothing is kept
			f := start(t, most)
			for range 2 {
				if got, errno := f.Decides(row.touches...); got != row.wanted || errno != api.OK {
					t.Errorf("%s: Decides is %d, %v, not %d", name, got, errno, row.wanted)
				}
			}
			holds(t, f, form(2, 2), []uint32{3, 4, 8}, startSets(nil))
		}
	}
}

func TestPagesComeAndGo(t *testing.T) { // P12.3, P12.5
	f := made(t, form(32, 32), 9)
	pages := func(memory, disk int) {
		t.Helper()
		if m, d := f.Pages(); m != memory || d != disk {
			t.Errorf("Pages is %d, %d, not %d, %d", m, d, memory, disk)
		}
	}
	pages(0, 0)
	mark(t, f, reg(1), 1, 1)
	mark(t, f, in(0), 200, 2)
	pages(0, 0)
	mark(t, f, mem(63), 2, 1)
	pages(2, 0)
	apply(t, f, touch(mem(63)), touch(sector(2047), mem(63)))
	pages(1, 1)
	apply(t, f, touch(mem(64), reg(2)))
	pages(0, 1)
	apply(t, f, touch(mem(64), reg(2)), touch(sector(2047), mem(64)))
	pages(0, 0)
	mark(t, f, mem(0), 2048, 3)
	mark(t, f, sector(64), 1984, 3)
	pages(32, 31)
	mark(t, f, mem(1), 2047, 0)
	pages(1, 31)
	apply(t, f, touch(mem(0)), touch(mem(2047), mem(0)))
	pages(1, 31)
	mark(t, f, mem(0), 2048, 0)
	mark(t, f, sector(0), 2048, 0)
	pages(0, 0)
	mark(t, f, mem(0), 2048, 0)
	pages(0, 0)
}

func TestSetsIsNewMemory(t *testing.T) { // P12.3
	f := start(t, 9)
	first, second := f.Sets(), f.Sets()
	first[1] = 77
	_ = append(first[:1], 78)
	if !slices.Equal(second, []uint32{0, 3, 4, 8}) {
		t.Errorf("another answer is %v", second)
	}
	holds(t, f, form(2, 2), []uint32{3, 4, 8}, startSets(nil))
}

// full is a flow whose places of the edges all have a set.
func full(t *testing.T) (*Flow, []told) {
	t.Helper()
	f := made(t, form(2, 2), 64)
	var l []told
	for n, p := range edges(form(2, 2)) {
		l = append(l, told{p, uint32(n%7 + 1)})
	}
	for _, each := range slices.Backward(l) { // in an order that is not All's
		mark(t, f, each.place, 1, each.set)
	}
	return f, l
}

func TestAllMayBeLeft(t *testing.T) { // P12.3
	f, l := full(t)
	each := f.All()
	for until := range len(l) {
		var got []told
		for p, set := range each {
			got = append(got, told{p, set})
			if len(got) > until {
				break
			}
		}
		if !slices.Equal(got, l[:until+1]) {
			t.Errorf("left behind %d: %v", until+1, got)
		}
	}
	for range 2 { // and gone over as a whole, again and again
		var got []told
		for p, set := range each {
			got = append(got, told{p, set})
		}
		if !slices.Equal(got, l) {
			t.Errorf("gone over again: %v", got)
		}
	}
}

func TestAllAndWhatIsChangedBehind(t *testing.T) { // P12.3
	f, l := full(t)
	each := f.All()
	var got []told
	for p, set := range each { // it is gone over on the way too
		got = append(got, told{p, set})
		apply(t, f, touch(p))
		mark(t, f, in(7), 2, 5)
	}
	if !slices.Equal(got, l) {
		t.Errorf("changed on the way: %v, not %v", got, l)
	}
	got = nil
	for p, set := range each {
		got = append(got, told{p, set})
	}
	if !slices.Equal(got, l) {
		t.Errorf("changed behind it: %v, not %v", got, l)
	}
	if got := all(f); !slices.Equal(got, []told{{in(7), 5}, {in(8), 5}}) {
		t.Errorf("asked anew: %v", got)
	}
}

func TestCopyGoesOnApart(t *testing.T) { // P12.3
	of := form(2, 2)
	for _, p := range edges(of) {
		f := made(t, of, 3)
		mark(t, f, p, 1, 1)
		other := f.Copy()
		if other == f || !Same(f, other) {
			t.Fatalf("%v: the copy is not another one with the same", p)
		}
		mark(t, f, p, 1, 2)
		holds(t, other, of, []uint32{1}, map[api.Place]uint32{p: 1})
		mark(t, other, p, 1, 4)
		holds(t, f, of, []uint32{1, 2}, map[api.Place]uint32{p: 2})
		holds(t, other, of, []uint32{1, 4}, map[api.Place]uint32{p: 4})
		if f.Mark(p, 1, 8) != api.ErrFull || other.Mark(p, 1, 8) != api.ErrFull {
			t.Errorf("%v: the copy has another bound", p)
		}
		if Same(f, other) {
			t.Errorf("%v: both are still the same", p)
		}
	}
}

func TestSame(t *testing.T) { // P12.3
	base := func(of api.Form, most int, keep ...uint32) *Flow {
		f := made(t, of, most)
		for _, set := range keep {
			mark(t, f, mem(0), 0, set)
		}
		mark(t, f, reg(1), 1, 1)
		mark(t, f, mem(5), 2, 2)
		return f
	}
	of := form(2, 2)
	applied := base(of, 9)
	apply(t, applied, touch(sector(3), reg(1)), touch(in(4), mem(5)))
	apply(t, applied, touch(sector(3)), touch(in(4)))
	f := base(of, 9)
	for name, row := range map[string]struct {
		other  *Flow
		wanted bool
	}{
		"itself":                          {f, true},
		"its copy":                        {f.Copy(), true},
		"one made alike":                  {base(of, 9, 1, 2, 1, 0), true},
		"sets that came and went":         {applied, true},
		"another bound":                   {base(of, 10), true},
		"another order":                   {base(of, 9, 2, 1), false},
		"one more is kept":                {base(of, 9, 1, 2, 3), false},
		"more frames":                     {base(form(3, 2), 9), false},
		"more sectors":                    {base(form(2, 3), 9), false},
		"an empty one":                    {made(t, of, 9), false},
		"one that keeps the same":         {marked(t, made(t, of, 9), told{mem(0), 1}, told{mem(0), 2}, told{mem(0), 0}), false},
		"the same sets, changed about":    {marked(t, base(of, 9), told{reg(1), 2}, told{mem(5), 1}), false},
		"one byte of two":                 {marked(t, base(of, 9), told{mem(6), 0}), false},
		"a byte of the disk for memory's": {marked(t, base(of, 9), told{mem(6), 0}, told{sector(6), 2}), false},
	} {
		if Same(f, row.other) != row.wanted || Same(row.other, f) != row.wanted {
			t.Errorf("%s: Same is not %t", name, row.wanted)
		}
	}
	for _, p := range edges(of) { // no place is left out
		more := marked(t, base(of, 9), told{p, 1})
		if wanted := p == reg(1); Same(f, more) != wanted || Same(more, f) != wanted {
			t.Errorf("%v: Same is not %t", p, wanted)
		}
	}
}

// marked marks places one by one.
func marked(t *testing.T, f *Flow, l ...told) *Flow {
	t.Helper()
	for _, each := range l {
		mark(t, f, each.place, 1, each.set)
	}
	return f
}

func TestNone(t *testing.T) { // P12.1, P12.2, P12.3
	there := made(t, form(1, 1), 9)
	for name, f := range noFlows() {
		for _, p := range []api.Place{reg(0), {}, place(99, -1)} { // ErrNil is the first
			if set, errno := f.Get(p); set != 0 || errno != api.ErrNil {
				t.Errorf("%s: Get is %d, %v", name, set, errno)
			}
			for _, n := range []int{0, 1, -1, highest + 1} {
				if errno := f.Mark(p, n, 1<<16); errno != api.ErrNil {
					t.Errorf("%s: Mark is %v", name, errno)
				}
			}
			if errno := f.Apply(touch(p, p)); errno != api.ErrNil {
				t.Errorf("%s: Apply is %v", name, errno)
			}
			if set, errno := f.Decides(decided(p)); set != 0 || errno != api.ErrNil {
				t.Errorf("%s: Decides is %d, %v", name, set, errno)
			}
		}
		if _, errno := f.Decides(); errno != api.ErrNil || f.Apply() != api.ErrNil {
			t.Errorf("%s: of no touches it is not refused", name)
		}
		if memory, disk := f.Pages(); memory != 0 || disk != 0 || len(f.Sets()) != 0 || f.Copy() != nil {
			t.Errorf("%s: Pages is %d, %d, Sets %v, Copy %v", name, memory, disk, f.Sets(), f.Copy())
		}
		if f.All() == nil || len(all(f)) != 0 {
			t.Errorf("%s: All tells something, or is none", name)
		}
		for _, other := range noFlows() {
			if !Same(f, other) {
				t.Errorf("%s: none is not like none", name)
			}
		}
		if Same(f, there) || Same(there, f) {
			t.Errorf("%s: none is like one that is there", name)
		}
	}
}

func TestWhatIsHandedInStays(t *testing.T) { // P12.2
	f := start(t, 9)
	from := []api.Place{reg(1), reg(2), reg(3)}
	room := []api.Touch{{To: reg(4), From: from[:2]}, {From: from[1:2]}, {To: mem(0), From: from[:2]}}
	if set, errno := f.Decides(room[:2]...); set != 4 || errno != api.OK {
		t.Errorf("Decides is %d, %v", set, errno)
	}
	apply(t, f, room[:2]...)
	if !slices.Equal(from, []api.Place{reg(1), reg(2), reg(3)}) || room[0].To != reg(4) || room[2].To != mem(0) || len(room[0].From) != 2 || len(room[1].From) != 1 {
		t.Errorf("what was handed in is %v, %v", from, room)
	}
	from[0], room[0].To = mem(64), reg(5) // and is not kept
	holds(t, f, form(2, 2), []uint32{3, 4, 8, 7}, startSets(map[api.Place]uint32{reg(4): 7}))
}
