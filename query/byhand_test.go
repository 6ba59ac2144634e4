package query

import (
	"cmp"
	"slices"
	"testing"

	"pomander/api"
)

// steady tells numbers by a fixed rule, so that every run sees the same ones.
func steady(seed uint32) func(below int) int {
	return func(below int) int {
		seed = seed*1664525 + 1013904223
		return int(seed>>8) % below
	}
}

// byHand is a history by its definition alone: all notes, one behind the other.
type byHand []api.Note

func (h *byHand) add(step int64, l []api.Touch) api.Errno {
	if step < 0 || len(*h) > 0 && step < (*h)[len(*h)-1].Step {
		return api.ErrArg
	}
	for _, touch := range l {
		if touch.To != (api.Place{}) {
			*h = append(*h, api.Note{Step: step, Place: touch.To, From: touch.From})
		}
	}
	return api.OK
}

func (h byHand) notes(p api.Place) []api.Note {
	return slices.DeleteFunc(slices.Clone(h), func(n api.Note) bool { return n.Place != p })
}

func (h byHand) last(p api.Place, step int64) (api.Note, bool) {
	ahead := slices.DeleteFunc(h.notes(p), func(n api.Note) bool { return n.Step >= step })
	if len(ahead) == 0 {
		return api.Note{}, false
	}
	return ahead[len(ahead)-1], true
}

// roots tells where a place came from, some of them several times, in any order.
func (h byHand) roots(p api.Place, step int64) []api.Place {
	last, there := h.last(p, step)
	if !there {
		return []api.Place{p}
	}
	var l []api.Place
	for _, from := range last.From {
		l = append(l, h.roots(from, last.Step)...)
	}
	return l
}

func (h byHand) inOrder(p api.Place, step int64) []api.Place {
	l := h.roots(p, step)
	slices.SortFunc(l, func(a, b api.Place) int {
		if a.Kind != b.Kind {
			return cmp.Compare(a.Kind, b.Kind)
		}
		return cmp.Compare(a.N, b.N)
	})
	return slices.Compact(l)
}

// handled are the places that runs by hand touch: few, so that they meet.
func handled() []api.Place {
	return []api.Place{reg(0), reg(1), reg(2), pc, mem(0), mem(5), in(0), in(1), place(18, -3), place(0, 7), {}}
}

func someTouches(c func(int) int) []api.Touch {
	l := make([]api.Touch, c(4))
	for n := range l {
		l[n].To = handled()[c(11)]
		for range c(4) {
			l[n].From = append(l[n].From, handled()[c(11)])
		}
	}
	return l
}

// alike fails where a history tells otherwise than one by hand.
func alike(t *testing.T, h *History, hand byHand, beyond int64) {
	t.Helper()
	long(t, h, len(hand))
	for _, p := range handled() {
		notes(t, h, p, hand.notes(p)...)
		for step := int64(-1); step <= beyond; step++ {
			if wanted, there := hand.last(p, step); there {
				lasts(t, h, p, step, wanted)
			} else {
				lacks(t, h, p, step)
			}
			came(t, h, p, step, hand.inOrder(p, step)...)
		}
	}
}

func TestByHand(t *testing.T) { // P14.1, P14.2, P14.4
	for seed := range uint32(60) {
		c := steady(seed)
		h, hand, step := New(), byHand(nil), int64(0)
		var before *History
		var handBefore byHand
		for range 10 {
			step += int64(c(3) * c(2))
			asked := step - int64(c(12)/10*c(4)) // now and then one that was
			l := someTouches(c)
			if got, wanted := h.Add(asked, l...), hand.add(asked, l); got != wanted {
				t.Errorf("Add(%d, %v) is %v, not %v", asked, l, got, wanted)
			}
			if c(5) == 0 { // nothing is to be seen of it
				before, handBefore = h, slices.Clone(hand)
				h = h.Copy()
			}
		}
		alike(t, h, hand, step+2)
		if before != nil {
			alike(t, before, handBefore, step+2)
		}
		if t.Failed() {
			t.Fatalf("at seed %d", seed)
		}
	}
}
