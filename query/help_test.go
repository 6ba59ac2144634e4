package query

import (
	"math"
	"slices"
	"testing"

	"pomander/api"
	"pomander/flow"
)

const highestSet = 1<<api.MaxLabels - 1

// noHistories are histories that New did not make: their answers are those of none.
func noHistories() map[string]*History {
	return map[string]*History{"nil": nil, "zero": {}, "copy of none": (*History)(nil).Copy()}
}

// noFlows are flows that none made.
func noFlows() map[string]*flow.Flow {
	refused, _ := flow.New(api.Form{}, 9)
	return map[string]*flow.Flow{"nil": nil, "refused": refused, "zero": {}}
}

func place(kind api.PlaceKind, n int) api.Place { return api.Place{Kind: kind, N: n} }

func reg(n int) api.Place    { return place(api.PlaceReg, n) }
func mem(n int) api.Place    { return place(api.PlaceMem, n) }
func sector(n int) api.Place { return place(api.PlaceSector, n) }
func in(n int) api.Place     { return place(api.PlaceIn, n) }
func out(n int) api.Place    { return place(api.PlaceOut, n) }

var pc = place(api.PlacePc, 0)

// strange are places whose Kind or N no place has.
func strange() []api.Place {
	return []api.Place{
		place(api.PlaceNone, 1), place(api.PlaceNone, -1), place(18, 0), place(18, 5), place(-1, 0), place(-1, -1),
		place(math.MaxInt, math.MaxInt), place(math.MinInt, math.MinInt), reg(8), reg(-1), reg(math.MinInt), mem(math.MaxInt),
		place(api.PlacePc, 1), place(api.PlacePc, -1), in(1 << 31), in(-1), place(api.PlaceTlb, 4), place(api.PlaceAsk, 2),
	}
}

// touch goes to a place.
func touch(to api.Place, from ...api.Place) api.Touch { return api.Touch{To: to, From: from} }

// decided goes to no place.
func decided(from ...api.Place) api.Touch { return api.Touch{From: from} }

func note(step int64, p api.Place, from ...api.Place) api.Note {
	return api.Note{Step: step, Place: p, From: from}
}

func sameNote(a, b api.Note) bool {
	return a.Step == b.Step && a.Place == b.Place && slices.Equal(a.From, b.From)
}

// add fails where touches are not noted.
func add(t *testing.T, h *History, step int64, l ...api.Touch) {
	t.Helper()
	if errno := h.Add(step, l...); errno != api.OK {
		t.Fatalf("Add(%d, %v) is %v", step, l, errno)
	}
}

// refuses fails where touches are not refused so.
func refuses(t *testing.T, h *History, wanted api.Errno, step int64, l ...api.Touch) {
	t.Helper()
	if errno := h.Add(step, l...); errno != wanted {
		t.Errorf("Add(%d, %d touches) is %v, not %v", step, len(l), errno, wanted)
	}
}

// lasts fails where the last note of a place, ahead of a step, is another one.
func lasts(t *testing.T, h *History, p api.Place, step int64, wanted api.Note) {
	t.Helper()
	if got, there := h.Last(p, step); !there || !sameNote(got, wanted) {
		t.Errorf("Last(%v, %d) is %v, %t, not %v", p, step, got, there, wanted)
	}
}

// lacks fails where a place has a note ahead of a step.
func lacks(t *testing.T, h *History, p api.Place, step int64) {
	t.Helper()
	if got, there := h.Last(p, step); there || !sameNote(got, api.Note{}) {
		t.Errorf("Last(%v, %d) is %v, %t", p, step, got, there)
	}
}

// came fails where a place came from others, ahead of a step; it is asked twice.
func came(t *testing.T, h *History, p api.Place, step int64, wanted ...api.Place) {
	t.Helper()
	for range 2 {
		if got := h.Roots(p, step); !slices.Equal(got, wanted) {
			t.Errorf("Roots(%v, %d) is %v, not %v", p, step, got, wanted)
		}
	}
}

// notes fails where a place has other notes.
func notes(t *testing.T, h *History, p api.Place, wanted ...api.Note) {
	t.Helper()
	if got := h.Notes(p); !slices.EqualFunc(got, wanted, sameNote) {
		t.Errorf("Notes(%v) is %v, not %v", p, got, wanted)
	}
}

// long fails where there are more notes, or fewer.
func long(t *testing.T, h *History, wanted int) {
	t.Helper()
	if got := h.Len(); got != wanted {
		t.Errorf("Len is %d, not %d", got, wanted)
	}
}

// start is a history with notes at the steps 3, 3, 3, 7 and 7 of three places.
func start(t *testing.T) *History {
	t.Helper()
	h := New()
	add(t, h, 3, touch(reg(1), in(0)), decided(reg(2)), touch(mem(5), reg(1), in(1)), touch(reg(1)))
	add(t, h, 7, touch(reg(1), mem(5), reg(1)), touch(pc, pc))
	return h
}

// isStart fails where a history is not, in all that it tells, as start made it.
func isStart(t *testing.T, h *History) {
	t.Helper()
	long(t, h, 5)
	notes(t, h, reg(1), note(3, reg(1), in(0)), note(3, reg(1)), note(7, reg(1), mem(5), reg(1)))
	notes(t, h, mem(5), note(3, mem(5), reg(1), in(1)))
	notes(t, h, pc, note(7, pc, pc))
	for _, p := range append(strange(), api.Place{}, reg(2), in(0), out(0)) {
		notes(t, h, p)
		lacks(t, h, p, math.MaxInt64)
		came(t, h, p, math.MaxInt64, p)
	}
	lasts(t, h, reg(1), 8, note(7, reg(1), mem(5), reg(1)))
	lasts(t, h, reg(1), 7, note(3, reg(1)))
	lacks(t, h, reg(1), 3)
	came(t, h, reg(1), 8, reg(1), in(1))
}
