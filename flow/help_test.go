package flow

import (
	"maps"
	"math"
	"slices"
	"testing"

	"pomander/api"
)

const (
	highestSet = 1<<api.MaxLabels - 1
	highest    = 65536
	counts     = 1 << 31 // of the Kinds whose places are counted on and on
)

// noSets are words with a bit that is no label, labels beside it or not.
var noSets = []uint32{1 << 16, 1<<16 | 1, 1<<17 - 1, 1 << 31, math.MaxUint32, math.MaxUint32 - highestSet}

// noFlows are flows that New did not make: their answers are those of none.
func noFlows() map[string]*Flow {
	refusedForm, _ := New(api.Form{}, 9)
	refusedBound, _ := New(api.Form{Frames: 1, Sectors: 1}, 0)
	return map[string]*Flow{"nil": nil, "refused its form": refusedForm, "refused its bound": refusedBound, "zero": {}}
}

// form is a form, in short.
func form(frames, sectors int) api.Form { return api.Form{Frames: frames, Sectors: sectors} }

// place is a place, in short.
func place(kind api.PlaceKind, n int) api.Place { return api.Place{Kind: kind, N: n} }

func reg(n int) api.Place    { return place(api.PlaceReg, n) }
func mem(n int) api.Place    { return place(api.PlaceMem, n) }
func sector(n int) api.Place { return place(api.PlaceSector, n) }
func in(n int) api.Place     { return place(api.PlaceIn, n) }

// touch goes to a place.
func touch(to api.Place, from ...api.Place) api.Touch { return api.Touch{To: to, From: from} }

// decided goes to no place.
func decided(from ...api.Place) api.Touch { return api.Touch{From: from} }

// howMany is how many places of each Kind a form has, by the chapter.
func howMany(f api.Form) [18]int {
	return [18]int{0, 8, 1, 1, 1, 1, 1, 1, 1, 1, f.Frames * 64, 4, f.Sectors * 64, counts, counts, counts, counts, 2}
}

// edges are the first places of each Kind and the last ones.
func edges(f api.Form) []api.Place {
	var l []api.Place
	for kind, many := range howMany(f) {
		for _, n := range []int{0, 1, many - 2, many - 1} {
			if p := place(api.PlaceKind(kind), n); n >= 0 && n < many && !slices.Contains(l, p) {
				l = append(l, p)
			}
		}
	}
	return l
}

// noPlaces are places that may not be in a form: beyond the first and the last one of each Kind, of no Kind, and PlaceNone.
func noPlaces(f api.Form) []api.Place {
	var l []api.Place
	for kind, many := range howMany(f) {
		for _, n := range []int{many, many + 1, many + 64, -1, -2, -many - 1, 1 << 32, 1<<32 + 1, math.MaxInt, math.MinInt} {
			l = append(l, place(api.PlaceKind(kind), n))
		}
	}
	for _, kind := range []api.PlaceKind{18, 19, 32, 255, 256, 257, 1<<32 + 1, math.MaxInt, -1, -2, -17, math.MinInt} {
		l = append(l, place(kind, 0), place(kind, 1), place(kind, -1))
	}
	return l
}

// some are all places of a form, of those that are counted on the first, some and the last.
func some(f api.Form) []api.Place {
	var l []api.Place
	for kind, many := range howMany(f) {
		for n := range min(many, 32*64) {
			l = append(l, place(api.PlaceKind(kind), n))
		}
		if many == counts {
			l = append(l, place(api.PlaceKind(kind), 65535), place(api.PlaceKind(kind), counts-1))
		}
	}
	return l
}

func made(t *testing.T, f api.Form, most int) *Flow {
	t.Helper()
	made, errno := New(f, most)
	if made == nil || errno != api.OK {
		t.Fatalf("New(%v, %d) is %v, %v", f, most, made, errno)
	}
	return made
}

func mark(t *testing.T, f *Flow, p api.Place, n int, set uint32) {
	t.Helper()
	if errno := f.Mark(p, n, set); errno != api.OK {
		t.Fatalf("Mark(%v, %d, %d) is %v", p, n, set, errno)
	}
}

func apply(t *testing.T, f *Flow, l ...api.Touch) {
	t.Helper()
	if errno := f.Apply(l...); errno != api.OK {
		t.Fatalf("Apply(%v) is %v", l, errno)
	}
}

// refusesApply fails where touches are not refused so.
func refusesApply(t *testing.T, f *Flow, wanted api.Errno, l ...api.Touch) {
	t.Helper()
	if errno := f.Apply(l...); errno != wanted {
		t.Errorf("Apply(%v) is %v, not %v", l, errno, wanted)
	}
}

// told is a place and its set, as All tells them.
type told struct {
	place api.Place
	set   uint32
}

func all(f *Flow) []told {
	var l []told
	for p, set := range f.All() {
		l = append(l, told{p, set})
	}
	return l
}

// inOrder are places with sets by rising Kind, then N, those of the empty set left out.
func inOrder(sets map[api.Place]uint32) []told {
	var l []told
	for p, set := range sets {
		if set != 0 {
			l = append(l, told{p, set})
		}
	}
	slices.SortFunc(l, func(a, b told) int {
		if a.place.Kind != b.place.Kind {
			return int(a.place.Kind - b.place.Kind)
		}
		return a.place.N - b.place.N
	})
	return l
}

// pagesOf is how many pages some place of a Kind with a set is of.
func pagesOf(sets map[api.Place]uint32, kind api.PlaceKind) int {
	pages := map[int]bool{}
	for p, set := range sets {
		if p.Kind == kind && set != 0 {
			pages[p.N/64] = true
		}
	}
	return len(pages)
}

// holds fails where a flow of a form keeps other sets than these (and the empty one), or its places have others, or other pages have some.
func holds(t *testing.T, f *Flow, of api.Form, kept []uint32, sets map[api.Place]uint32) {
	t.Helper()
	if got := f.Sets(); !slices.Equal(got, append([]uint32{0}, kept...)) {
		t.Errorf("Sets is %v, not 0 and %v", got, kept)
	}
	if got, wanted := all(f), inOrder(sets); !slices.Equal(got, wanted) {
		t.Errorf("All is %v, not %v", got, wanted)
	}
	for _, p := range append(some(of), slices.Collect(maps.Keys(sets))...) {
		if got, errno := f.Get(p); got != sets[p] || errno != api.OK {
			t.Errorf("Get(%v) is %d, %v, not %d", p, got, errno, sets[p])
		}
	}
	memory, disk := f.Pages()
	if memory != pagesOf(sets, api.PlaceMem) || disk != pagesOf(sets, api.PlaceSector) {
		t.Errorf("Pages is %d, %d of %v", memory, disk, sets)
	}
}
