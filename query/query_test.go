package query

import (
	"math"
	"slices"
	"testing"

	"pomander/api"
)

func TestNew(t *testing.T) { // P14.1
	h := New()
	if h == nil || h == New() {
		t.Fatalf("New is %v", h)
	}
	long(t, h, 0)
	for _, p := range append(strange(), api.Place{}, reg(1), mem(5), pc) {
		notes(t, h, p)
		for _, step := range []int64{0, 1, 9, math.MaxInt64, -1, math.MinInt64} {
			lacks(t, h, p, step)
			came(t, h, p, step, p)
		}
	}
	add(t, h, 0, touch(reg(1)))
	long(t, h, 1)
	long(t, New(), 0) // another one
}

func TestExample(t *testing.T) { // P14.2
	h := New()
	add(t, h, 1, touch(reg(1), in(0)))
	add(t, h, 2, touch(mem(5), reg(1)))
	add(t, h, 3, touch(reg(1)))
	came(t, h, mem(5), 9, in(0))
	came(t, h, reg(1), 9)
	came(t, h, reg(1), 1, reg(1))
}

func TestAddNotesInOrder(t *testing.T) { // P14.1
	isStart(t, start(t))
	h := New()
	add(t, h, 0, touch(reg(1), in(0)), touch(reg(2), in(1)), touch(reg(1), in(2), in(3)), touch(mem(0)), touch(reg(1)))
	add(t, h, 0, touch(reg(2), reg(2)), touch(reg(1), reg(1), reg(1)))
	long(t, h, 7)
	notes(t, h, reg(1), note(0, reg(1), in(0)), note(0, reg(1), in(2), in(3)), note(0, reg(1)), note(0, reg(1), reg(1), reg(1)))
	notes(t, h, reg(2), note(0, reg(2), in(1)), note(0, reg(2), reg(2)))
	notes(t, h, mem(0), note(0, mem(0)))
	add(t, h, math.MaxInt64, touch(mem(0), mem(1), mem(0)))
	add(t, h, math.MaxInt64, touch(mem(0)))
	notes(t, h, mem(0), note(0, mem(0)), note(math.MaxInt64, mem(0), mem(1), mem(0)), note(math.MaxInt64, mem(0)))
	long(t, h, 9)
}

// TestAddOfNothing: calls that note nothing are asked for their steps, but no later step is asked against theirs.
func TestAddOfNothing(t *testing.T) { // P14.1
	h := New()
	for _, l := range [][]api.Touch{nil, {}, {decided()}, {decided(reg(1)), decided(in(0), pc)}} {
		add(t, h, 9, l...)
		add(t, h, math.MaxInt64, l...)
		refuses(t, h, api.ErrArg, -1, l...)
		long(t, h, 0)
	}
	add(t, h, 4, touch(reg(1)))
	for _, l := range [][]api.Touch{nil, {}, {decided()}, {decided(reg(1))}} {
		add(t, h, 9, l...)
		refuses(t, h, api.ErrArg, 3, l...)
		refuses(t, h, api.ErrArg, -1, l...)
	}
	add(t, h, 4, touch(reg(1), in(0)))
	notes(t, h, reg(1), note(4, reg(1)), note(4, reg(1), in(0)))
}

func TestTouchesThatDecideAreNotNoted(t *testing.T) { // P14.1
	h := New()
	add(t, h, 1, decided(reg(1)), touch(reg(1), api.Place{}), decided(), touch(reg(2), reg(1)), decided(reg(2), reg(1)))
	long(t, h, 2)
	notes(t, h, api.Place{})
	lacks(t, h, api.Place{}, 9)
	came(t, h, api.Place{}, 9, api.Place{})
	came(t, h, reg(1), 9, api.Place{}) // but some come from it
	came(t, h, reg(2), 9, reg(1))
}

// TestPlacesThatMayNotBe: whatever a touch goes to, and comes from, is noted.
func TestPlacesThatMayNotBe(t *testing.T) { // P14.1, P14.2
	for n, p := range strange() {
		h, other := New(), strange()[(n+1)%len(strange())]
		add(t, h, 1, touch(p, other))
		add(t, h, 2, touch(reg(1), p, p), touch(p, p))
		long(t, h, 3)
		notes(t, h, p, note(1, p, other), note(2, p, p))
		notes(t, h, other)
		lasts(t, h, p, 2, note(1, p, other))
		came(t, h, reg(1), 9, other)
		came(t, h, p, 9, other)
		came(t, h, p, 1, p)
	}
}

func TestAddRefuses(t *testing.T) { // P14.1
	h := start(t)
	for _, step := range []int64{-1, -7, math.MinInt64, math.MinInt64 + 1, 6, 3, 0} {
		for _, l := range [][]api.Touch{nil, {decided(reg(1))}, {touch(reg(1))}, {touch(out(0), reg(1)), decided(), touch(pc)}} {
			refuses(t, h, api.ErrArg, step, l...)
			isStart(t, h)
		}
	}
	add(t, h, 7, touch(pc)) // and goes on where it was
	notes(t, h, pc, note(7, pc, pc), note(7, pc))
	for _, step := range []int64{-1, math.MinInt64} {
		empty := New()
		refuses(t, empty, api.ErrArg, step, touch(reg(1)))
		long(t, empty, 0)
		notes(t, empty, reg(1))
		add(t, empty, 0, touch(reg(1)))
	}
}

func TestLast(t *testing.T) { // P14.1
	h := New()
	add(t, h, 0, touch(reg(1), in(0)))
	add(t, h, 4, touch(reg(1), in(1)), touch(reg(2), in(9)), touch(reg(1), in(2)))
	add(t, h, 4, touch(reg(1), in(3), in(3)))
	add(t, h, 5, touch(reg(2)))
	add(t, h, 9, touch(reg(1)))
	for step, wanted := range map[int64]api.Note{
		1:             note(0, reg(1), in(0)),
		3:             note(0, reg(1), in(0)),
		4:             note(0, reg(1), in(0)),
		5:             note(4, reg(1), in(3), in(3)),
		9:             note(4, reg(1), in(3), in(3)),
		10:            note(9, reg(1)),
		math.MaxInt64: note(9, reg(1)),
	} {
		lasts(t, h, reg(1), step, wanted)
	}
	for _, step := range []int64{0, -1, math.MinInt64} {
		lacks(t, h, reg(1), step)
	}
	lacks(t, h, reg(2), 4)
	lasts(t, h, reg(2), 5, note(4, reg(2), in(9)))
	lasts(t, h, reg(2), 6, note(5, reg(2)))
	for _, p := range []api.Place{reg(3), in(0), mem(1), place(api.PlaceTlb, 1), {}} { // no notes of theirs
		lacks(t, h, p, math.MaxInt64)
	}
	add(t, h, math.MaxInt64, touch(reg(2), in(0))) // no step is behind it
	lasts(t, h, reg(2), math.MaxInt64, note(5, reg(2)))
}

func TestRoots(t *testing.T) { // P14.2
	for name, row := range map[string]struct {
		steps  [][]api.Touch // the first one is the step 0
		of     api.Place
		step   int64
		wanted []api.Place
	}{
		"no notes":                 {nil, reg(1), 9, []api.Place{reg(1)}},
		"no note of that place":    {[][]api.Touch{{touch(reg(2), reg(1))}}, reg(1), 9, []api.Place{reg(1)}},
		"one place":                {[][]api.Touch{{touch(reg(1), in(0))}}, reg(1), 1, []api.Place{in(0)}},
		"ahead of the step 0":      {[][]api.Touch{{touch(reg(1), in(0))}}, reg(1), 0, []api.Place{reg(1)}},
		"ahead of a step below":    {[][]api.Touch{{touch(reg(1), in(0))}}, reg(1), -1, []api.Place{reg(1)}},
		"at the note's step":       {[][]api.Touch{{}, {touch(reg(1), in(0))}}, reg(1), 1, []api.Place{reg(1)}},
		"behind the note's step":   {[][]api.Touch{{}, {touch(reg(1), in(0))}}, reg(1), 2, []api.Place{in(0)}},
		"from nothing":             {[][]api.Touch{{touch(reg(1))}}, reg(1), 9, nil},
		"from one without, partly": {[][]api.Touch{{touch(reg(1))}, {touch(reg(2), reg(1), reg(3))}}, reg(2), 9, []api.Place{reg(3)}},
		"from itself":              {[][]api.Touch{{touch(reg(1), reg(1))}}, reg(1), 9, []api.Place{reg(1)}},
		"from itself, by and by":   {[][]api.Touch{{touch(reg(1), in(0))}, {touch(reg(1), reg(1))}, {touch(reg(1), reg(1), in(1))}}, reg(1), 9, []api.Place{in(0), in(1)}},
		"the same place twice":     {[][]api.Touch{{touch(reg(1), in(0), in(0))}}, reg(1), 9, []api.Place{in(0)}},
		"put in order":             {[][]api.Touch{{touch(reg(1), out(0), in(2), pc, in(10), reg(7), in(-1), sector(9), reg(0), api.Place{})}}, reg(1), 9, []api.Place{{}, reg(0), reg(7), pc, sector(9), in(-1), in(2), in(10), out(0)}},
		"by two ways":              {[][]api.Touch{{touch(reg(1), in(0)), touch(reg(2), in(0), in(1))}, {touch(reg(3), reg(2), reg(1), in(1))}}, reg(3), 9, []api.Place{in(0), in(1)}},
		"as they were at its step": {[][]api.Touch{{touch(reg(1), in(0))}, {touch(mem(0), reg(1))}, {touch(reg(1), in(1))}}, mem(0), 9, []api.Place{in(0)}},
		"as it was and as it is":   {[][]api.Touch{{touch(reg(1), in(0))}, {touch(mem(0), reg(1))}, {touch(reg(1), in(1))}, {touch(mem(1), mem(0), reg(1))}}, mem(1), 9, []api.Place{in(0), in(1)}},
		"all at once":              {[][]api.Touch{{touch(reg(1), in(0)), touch(reg(2), reg(1))}}, reg(2), 9, []api.Place{reg(1)}},
		"changed about":            {[][]api.Touch{{touch(reg(1), in(0)), touch(reg(2), in(1))}, {touch(reg(1), reg(2)), touch(reg(2), reg(1))}}, reg(1), 9, []api.Place{in(1)}},
		"the last of a step":       {[][]api.Touch{{touch(reg(1), in(0)), touch(reg(2)), touch(reg(1), in(1)), decided(reg(1))}}, reg(1), 9, []api.Place{in(1)}},
		"the last of a step, none": {[][]api.Touch{{touch(reg(1), in(0)), touch(reg(1))}}, reg(1), 9, nil},
		"one with a note, later":   {[][]api.Touch{{touch(reg(1), mem(0))}, {touch(mem(0), in(0))}}, reg(1), 9, []api.Place{mem(0)}},
		"one as it was ahead of all, and behind": {[][]api.Touch{{touch(reg(1), mem(0))}, {touch(mem(0), in(0))}, {touch(reg(1), reg(1), mem(0))}},
			reg(1), 9, []api.Place{mem(0), in(0)}},
		"found ahead of it by another step": {[][]api.Touch{{touch(mem(0), in(0))}, {touch(reg(1), mem(0))}, {touch(mem(0), in(1))}, {touch(reg(2), mem(0), reg(1), mem(0))}},
			reg(2), 9, []api.Place{in(0), in(1)}},
		"what decides is not of it": {[][]api.Touch{{decided(in(0)), touch(reg(1), in(1)), decided(in(2))}}, reg(1), 9, []api.Place{in(1)}},
		"a ring, once around":       {[][]api.Touch{{touch(reg(1), reg(3))}, {touch(reg(2), reg(1))}, {touch(reg(3), reg(2))}}, reg(3), 9, []api.Place{reg(3)}},
		"a ring, twice around": {[][]api.Touch{{touch(reg(1), reg(3), in(0))}, {touch(reg(2), reg(1), in(1))}, {touch(reg(3), reg(2), in(2))}, {touch(reg(1), reg(3), in(3))}, {touch(reg(2), reg(1), in(4))}, {touch(reg(3), reg(2), in(5))}},
			reg(3), 9, []api.Place{reg(3), in(0), in(1), in(2), in(3), in(4), in(5)}},
		"a ring, half around": {[][]api.Touch{{touch(reg(1), reg(3), in(0))}, {touch(reg(2), reg(1), in(1))}, {touch(reg(3), reg(2), in(2))}, {touch(reg(1), reg(3), in(3))}},
			reg(1), 3, []api.Place{reg(3), in(0)}},
	} {
		t.Run(name, func(t *testing.T) {
			h := New()
			for step, l := range row.steps {
				add(t, h, int64(step), l...)
			}
			came(t, h, row.of, row.step, row.wanted...)
		})
	}
}

// TestNothingBehindChangesWhatIsAhead: whatever is noted, what was told ahead of its step is told again.
func TestNothingBehindChangesWhatIsAhead(t *testing.T) { // P14.4
	h := start(t)
	places := append(strange(), reg(1), reg(2), mem(5), pc, in(0), in(1), api.Place{})
	var before [][]api.Place
	for _, p := range places {
		for step := range int64(9) {
			before = append(before, h.Roots(p, step))
		}
	}
	for _, p := range places {
		if got := h.Roots(p, 0); !slices.Equal(got, []api.Place{p}) { // no note is ahead of the first step
			t.Errorf("Roots(%v, 0) is %v", p, got)
		}
		add(t, h, 8, touch(p, out(0)), touch(p), touch(p, out(1)))
	}
	for _, p := range places {
		add(t, h, 20, touch(p, out(2)))
	}
	for _, p := range places {
		for step := range int64(9) {
			if got := h.Roots(p, step); !slices.Equal(got, before[0]) {
				t.Errorf("Roots(%v, %d) was %v, is %v", p, step, before[0], got)
			}
			before = before[1:]
		}
	}
}

func TestWhatIsToldIsNewMemory(t *testing.T) { // P14.1, P14.2
	h := start(t)
	for range 2 {
		told, _ := h.Last(reg(1), 8)
		told.From[0] = out(9)
		_ = append(told.From[:1], out(8))
		_ = append(told.From, out(7))
		for _, p := range []api.Place{reg(1), mem(5), pc} {
			all, other := h.Notes(p), h.Notes(p)
			for n := range all {
				for at := range all[n].From {
					all[n].From[at] = out(6)
				}
				_ = append(all[n].From, out(5))
			}
			if !slices.EqualFunc(other, h.Notes(p), sameNote) {
				t.Errorf("another answer of %v is %v", p, other)
			}
			clear(all)
		}
		roots := h.Roots(reg(1), 8)
		roots[0] = out(4)
		_ = append(roots[:1], out(3))
		isStart(t, h)
	}
	add(t, h, 9, touch(mem(0), reg(1), in(0))) // notes of one answer share nothing either
	add(t, h, 9, touch(mem(0), reg(1), in(0)))
	all := h.Notes(mem(0))
	_ = append(all[0].From, out(2), out(2), out(2))
	all[0].From[1] = out(2)
	if !sameNote(all[1], note(9, mem(0), reg(1), in(0))) {
		t.Errorf("the other note is %v", all[1])
	}
}

func TestWhatIsHandedInStays(t *testing.T) { // P14.1
	h := New()
	from := []api.Place{in(0), in(1), in(2)}
	room := []api.Touch{{To: reg(1), From: from[:2]}, {From: from[:1]}, {To: reg(2), From: from[:0]}, {To: mem(0), From: from}}
	add(t, h, 1, room[:3]...)
	if !slices.Equal(from, []api.Place{in(0), in(1), in(2)}) || room[0].To != reg(1) || room[3].To != mem(0) || len(room[0].From) != 2 || len(room[1].From) != 1 || len(room[2].From) != 0 {
		t.Errorf("what was handed in is %v, %v", from, room)
	}
	from[0], from[1], room[0].To, room[2].From = out(9), out(8), pc, from // and is not kept
	long(t, h, 2)
	notes(t, h, reg(1), note(1, reg(1), in(0), in(1)))
	notes(t, h, reg(2), note(1, reg(2)))
	add(t, h, 2, touch(reg(1), in(5)))
	if told, _ := h.Last(reg(1), 2); !sameNote(told, note(1, reg(1), in(0), in(1))) {
		t.Errorf("the last note is %v", told)
	}
}

func TestCopyGoesOnApart(t *testing.T) { // P14.1
	h := start(t)
	other := h.Copy()
	if other == nil || other == h {
		t.Fatalf("Copy is %v", other)
	}
	isStart(t, other)
	add(t, h, 8, touch(reg(1), in(8)), touch(out(0), reg(1)), touch(mem(5)))
	isStart(t, other)
	add(t, other, 7, touch(reg(1), in(9)), touch(out(1), reg(1))) // its last step is its own
	second, third := other.Copy(), h.Copy()
	add(t, other, 9, touch(reg(1), in(10)), touch(reg(2)))
	add(t, second, 10, touch(reg(1), in(11)))
	add(t, h, 11, touch(reg(1), in(12)))
	add(t, third, 12, touch(reg(1), in(13)))
	refuses(t, third, api.ErrArg, 11, touch(reg(1)))
	common := []api.Note{note(3, reg(1), in(0)), note(3, reg(1)), note(7, reg(1), mem(5), reg(1))}
	for _, row := range []struct {
		h     *History
		many  int
		notes []api.Note
	}{
		{h, 9, []api.Note{note(8, reg(1), in(8)), note(11, reg(1), in(12))}},
		{other, 9, []api.Note{note(7, reg(1), in(9)), note(9, reg(1), in(10))}},
		{second, 8, []api.Note{note(7, reg(1), in(9)), note(10, reg(1), in(11))}},
		{third, 9, []api.Note{note(8, reg(1), in(8)), note(12, reg(1), in(13))}},
	} {
		long(t, row.h, row.many)
		notes(t, row.h, reg(1), append(slices.Clone(common), row.notes...)...)
		lasts(t, row.h, reg(1), 13, row.notes[1])
	}
	notes(t, other, out(0))
	notes(t, h, out(1))
	notes(t, second, reg(2))
	notes(t, h, mem(5), note(3, mem(5), reg(1), in(1)), note(8, mem(5)))
	notes(t, other, mem(5), note(3, mem(5), reg(1), in(1)))
	empty := New() // of no notes, too
	another := empty.Copy()
	add(t, empty, 5, touch(reg(1)))
	add(t, another, 4, touch(reg(2)))
	long(t, another, 1)
	notes(t, another, reg(1))
	notes(t, empty, reg(2))
}

// TestCopiesWithRoom: a list with spare room is added to from both sides.
func TestCopiesWithRoom(t *testing.T) { // P14.1
	for many := range int64(20) {
		h := New()
		for step := range many {
			add(t, h, step, touch(reg(1), in(int(step))))
		}
		first, second := h.Copy(), h.Copy()
		add(t, first, many, touch(reg(1), out(1)))
		add(t, h, many, touch(reg(1), out(0)))
		add(t, second, many, touch(reg(1), out(2)))
		for n, each := range []*History{h, first, second} {
			long(t, each, int(many)+1)
			lasts(t, each, reg(1), many+1, note(many, reg(1), out(n)))
			came(t, each, reg(1), many+1, out(n))
		}
	}
}

func TestNone(t *testing.T) { // P14.1, P14.2
	for name, h := range noHistories() {
		for _, step := range []int64{0, 5, -1, math.MinInt64, math.MaxInt64} { // ErrNil is the first
			for _, l := range [][]api.Touch{nil, {touch(reg(1), in(0))}, {decided(reg(1))}, make([]api.Touch, 3)} {
				refuses(t, h, api.ErrNil, step, l...)
			}
			for _, p := range append(strange(), api.Place{}, reg(1)) {
				lacks(t, h, p, step)
				came(t, h, p, step)
				notes(t, h, p)
			}
		}
		long(t, h, 0)
		if other := h.Copy(); other != nil {
			t.Errorf("%s: Copy is %v", name, other)
		}
	}
}
