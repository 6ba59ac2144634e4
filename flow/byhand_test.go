package flow

import (
	"maps"
	"slices"
	"testing"

	"pomander/api"
)

// steady tells numbers by a fixed rule, so that every run sees the same ones.
func steady(seed uint32) func(below int) int {
	return func(below int) int {
		seed = seed*1664525 + 1013904223
		return int(seed>>8) % below
	}
}

// byHand is a flow by its definition alone: the sets as they were kept, and each place's.
type byHand struct {
	form api.Form
	most int
	kept []uint32
	sets map[api.Place]uint32
}

func newByHand(f api.Form, most int) *byHand {
	return &byHand{form: f, most: most, kept: []uint32{0}, sets: map[api.Place]uint32{}}
}

func (h *byHand) may(p api.Place) bool {
	return p.Kind >= 1 && p.Kind <= 17 && p.N >= 0 && p.N < howMany(h.form)[p.Kind]
}

func (h *byHand) keep(set uint32) bool {
	if slices.Contains(h.kept, set) {
		return true
	}
	if len(h.kept) == h.most {
		return false
	}
	h.kept = append(h.kept, set)
	return true
}

func (h *byHand) mark(p api.Place, n int, set uint32) api.Errno {
	if !h.may(p) || set > highestSet {
		return api.ErrArg
	}
	if n < 0 || n > 65536 {
		return api.ErrRange
	}
	for at := range n {
		if !h.may(place(p.Kind, p.N+at)) {
			return api.ErrRange
		}
	}
	if !h.keep(set) {
		return api.ErrFull
	}
	for at := range n {
		h.sets[place(p.Kind, p.N+at)] = set
	}
	return api.OK
}

func (h *byHand) mayAll(l []api.Touch) bool {
	for _, touch := range l {
		if touch.To != (api.Place{}) && !h.may(touch.To) {
			return false
		}
		for _, p := range touch.From {
			if !h.may(p) {
				return false
			}
		}
	}
	return true
}

func (h *byHand) union(l []api.Place) uint32 {
	set := uint32(0)
	for _, p := range l {
		set |= h.sets[p]
	}
	return set
}

func (h *byHand) apply(l []api.Touch) api.Errno {
	if !h.mayAll(l) {
		return api.ErrArg
	}
	then := maps.Clone(h.sets)
	for _, touch := range l {
		if touch.To == (api.Place{}) {
			continue
		}
		if !h.keep(h.union(touch.From)) {
			return api.ErrFull
		}
		then[touch.To] = h.union(touch.From)
	}
	h.sets = then
	return api.OK
}

func (h *byHand) decides(l []api.Touch) (uint32, api.Errno) {
	if !h.mayAll(l) {
		return 0, api.ErrArg
	}
	set := uint32(0)
	for _, touch := range l {
		if touch.To == (api.Place{}) {
			set |= h.union(touch.From)
		}
	}
	return set, api.OK
}

// chance makes what is asked of a flow, by numbers.
type chance func(below int) int

// place is one of those near the edges, so that touches meet; where wrong, at times one that may not be.
func (c chance) place(of api.Form, wrong bool) api.Place {
	if wrong && c(40) == 0 {
		l := noPlaces(of)
		return l[c(len(l))]
	}
	l := edges(of)
	return l[c(len(l))]
}

func (c chance) touches(of api.Form, wrong bool) []api.Touch {
	l := make([]api.Touch, c(6))
	for n := range l {
		if c(4) > 0 {
			l[n].To = c.place(of, wrong)
		}
		for range c(4) {
			l[n].From = append(l[n].From, c.place(of, wrong))
		}
	}
	return l
}

// set is one of few labels, at times with others, or no set.
func (c chance) set(wrong bool) uint32 {
	if wrong && c(30) == 0 {
		return noSets[c(len(noSets))]
	}
	return uint32(1<<c(5)|1<<c(5)) &^ uint32(c(2)*highestSet)
}

func (c chance) many(wrong bool) int {
	if wrong && c(20) == 0 {
		return []int{-1, 65537, 65, 129, -65536}[c(5)]
	}
	return c(3)
}

// TestByHand: a flow answers as one by hand does, at each bound, also where sets are full and what is asked may not be.
func TestByHand(t *testing.T) { // P12.1, P12.2, P12.3, P12.5
	for seed := range uint32(60) {
		c := chance(steady(seed))
		of, most := form(1+c(3), 1+c(3)), 1+c(24)
		f, h := made(t, of, most), newByHand(of, most)
		for range 60 {
			switch c(4) {
			case 0:
				p, n, set := c.place(of, true), c.many(true), c.set(true)
				if got, wanted := f.Mark(p, n, set), h.mark(p, n, set); got != wanted {
					t.Fatalf("seed %d: Mark(%v, %d, %d) is %v, not %v", seed, p, n, set, got, wanted)
				}
			case 1:
				l := c.touches(of, true)
				got, errno := f.Decides(l...)
				if wanted, refusal := h.decides(l); got != wanted || errno != refusal {
					t.Fatalf("seed %d: Decides(%v) is %d, %v, not %d, %v", seed, l, got, errno, wanted, refusal)
				}
			case 2:
				f = f.Copy() // nothing is to be seen of it
			}
			l := c.touches(of, true)
			if got, wanted := f.Apply(l...), h.apply(l); got != wanted {
				t.Fatalf("seed %d: Apply(%v) is %v, not %v", seed, l, got, wanted)
			}
			if got, wanted := all(f), inOrder(h.sets); !slices.Equal(got, wanted) || !slices.Equal(f.Sets(), h.kept) {
				t.Fatalf("seed %d: behind %v All is %v, not %v, Sets %v, not %v", seed, l, got, wanted, f.Sets(), h.kept)
			}
		}
		holds(t, f, of, h.kept[1:], h.sets)
	}
}

// TestALabelLeftOut: with a label left out of what is marked, the others go the same ways.
func TestALabelLeftOut(t *testing.T) { // P12.4
	for seed := range uint32(20) {
		c := chance(steady(seed))
		of, out := form(2, 2), uint32(1<<c(5))
		with, without := made(t, of, highest), made(t, of, highest)
		for range 60 {
			p, n, set, l := c.place(of, true), c.many(true), c.set(false), c.touches(of, true)
			if a, b := with.Mark(p, n, set), without.Mark(p, n, set&^out); a != b {
				t.Fatalf("seed %d: Mark(%v, %d, %d) is %v, %v", seed, p, n, set, a, b)
			}
			if a, b := with.Apply(l...), without.Apply(l...); a != b {
				t.Fatalf("seed %d: Apply(%v) is %v, %v", seed, l, a, b)
			}
			a, refusalA := with.Decides(l...)
			if b, refusalB := without.Decides(l...); a&^out != b || refusalA != refusalB {
				t.Fatalf("seed %d: Decides(%v) is %d, %v, and %d, %v", seed, l, a, refusalA, b, refusalB)
			}
			sets := map[api.Place]uint32{}
			for p, set := range with.All() {
				sets[p] = set &^ out
			}
			if got, wanted := all(without), inOrder(sets); !slices.Equal(got, wanted) {
				t.Fatalf("seed %d: without %d All is %v, not %v", seed, out, got, wanted)
			}
		}
	}
}

// TestAlikeStaysAlike: what a flow answers hangs on what was done alone, so two to which the same was done are the same.
func TestAlikeStaysAlike(t *testing.T) { // P12.2, P12.3
	for seed := range uint32(10) {
		of := form(2, 2)
		var flows [3]*Flow
		for n := range flows {
			c := chance(steady(seed))
			flows[n] = made(t, of, 12)
			for range 60 {
				flows[n].Mark(c.place(of, true), c.many(true), c.set(true))
				flows[n].Apply(c.touches(of, true)...)
			}
		}
		if !Same(flows[0], flows[1]) || !Same(flows[1], flows[2]) || !slices.Equal(flows[0].Sets(), flows[2].Sets()) {
			t.Errorf("seed %d: they are not the same", seed)
		}
	}
}
