package query

import (
	"math"
	"testing"

	"pomander/api"
)

// bound is how many notes there may be.
const bound = 1048576

// wide are so many touches, each to a place of its own, beside some that decide.
func wide(many int) []api.Touch {
	l := []api.Touch{decided(reg(1))}
	for n := range many {
		l = append(l, touch(mem(n)))
	}
	return append(l, decided())
}

func TestNotesAtTheBound(t *testing.T) { // P14.1
	h := New()
	refuses(t, h, api.ErrLong, 4, wide(bound+1)...)
	long(t, h, 0)
	notes(t, h, mem(0))
	add(t, h, 3, wide(bound-2)...) // the step 4 of the refused call changed nothing
	long(t, h, bound-2)
	refuses(t, h, api.ErrLong, 5, touch(reg(1)), touch(reg(2)), touch(reg(3)))
	refuses(t, h, api.ErrLong, 9, wide(bound)...)
	full := h.Copy()
	add(t, full, 3, touch(reg(1)), touch(reg(2), in(0)))
	add(t, h, 3, touch(reg(1), in(0)))
	refuses(t, h, api.ErrLong, 3, touch(reg(1)), touch(reg(2)))
	add(t, h, 3, touch(reg(2)))
	for _, each := range []*History{h, full, full.Copy()} {
		for _, l := range [][]api.Touch{{touch(reg(1))}, {decided(), touch(reg(2))}, {touch(place(0, 1))}, wide(9)} {
			refuses(t, each, api.ErrLong, 3, l...)
			refuses(t, each, api.ErrLong, math.MaxInt64, l...)
			refuses(t, each, api.ErrArg, 2, l...) // ErrArg is ahead of it
			refuses(t, each, api.ErrArg, -1, l...)
		}
		for _, l := range [][]api.Touch{nil, {decided(reg(1))}, wide(0)} { // nothing is noted of them
			add(t, each, 3, l...)
			add(t, each, 9, l...)
			refuses(t, each, api.ErrArg, 2, l...)
		}
		long(t, each, bound)
		notes(t, each, mem(bound-3), note(3, mem(bound-3)))
		notes(t, each, mem(bound-2))
	}
	notes(t, h, reg(1), note(3, reg(1), in(0)))
	notes(t, h, reg(2), note(3, reg(2)))
	notes(t, full, reg(1), note(3, reg(1)))
	notes(t, full, reg(2), note(3, reg(2), in(0)))
}

// TestRootsOfLongWays: each note came from the one ahead of it, over as many notes as there may be.
func TestRootsOfLongWays(t *testing.T) { // P14.2
	for name, others := range map[string][]api.Place{"alone": nil, "with another": {reg(2)}} {
		h := New()
		add(t, h, 0, touch(reg(1), in(0), in(1)))
		for step := int64(1); step < bound; step++ {
			add(t, h, step, touch(reg(1), append([]api.Place{reg(1)}, others...)...))
		}
		came(t, h, reg(1), bound, append(others, in(0), in(1))...)
		came(t, h, reg(1), 1, in(0), in(1))
		came(t, h, reg(1), 0, reg(1))
		if last, there := h.Last(reg(1), 999999); !there || last.Step != 999998 {
			t.Errorf("%s: the last note ahead of 999999 is %v, %t", name, last, there)
		}
	}
}

// TestRootsAtEachDepth: ways of each length up to some thousands, each note of which has a root of its own.
func TestRootsAtEachDepth(t *testing.T) { // P14.2
	h := New()
	var wanted []api.Place
	for step := range 3001 {
		add(t, h, int64(step), touch(reg(1), in(step), reg(1), in(step)))
		wanted = append(wanted, in(step))
	}
	for _, depth := range []int{1, 2, 10, 998, 999, 1000, 1001, 1002, 1003, 1999, 2000, 2001, 2002, 2003, 3000, 3001} {
		came(t, h, reg(1), int64(depth), append([]api.Place{reg(1)}, wanted[:depth]...)...)
	}
}

// TestRootsOfManyWays: there are twice as many ways at each step; no note is gone back from twice.
func TestRootsOfManyWays(t *testing.T) { // P14.2
	h := New()
	for step := range int64(5000) {
		add(t, h, step, touch(reg(1), reg(2), reg(1), reg(2)), touch(reg(2), reg(1), reg(2), reg(1)))
	}
	came(t, h, reg(1), 5000, reg(1), reg(2))
	came(t, h, reg(2), 5000, reg(1), reg(2))
}

// TestRootsOfOneNoteOftenAsked: a note of many places is come to from many steps.
func TestRootsOfOneNoteOftenAsked(t *testing.T) { // P14.2
	const many = 20000
	h := New()
	var from []api.Place
	for n := range many {
		from = append(from, mem(n))
	}
	add(t, h, 0, touch(reg(1), from...))
	add(t, h, 1, touch(reg(2), reg(1)))
	for step := range int64(many) {
		add(t, h, step+2, touch(reg(2), reg(2), reg(1)))
	}
	came(t, h, reg(2), many+9, from...)
}
