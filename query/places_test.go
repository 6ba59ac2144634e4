package query

import (
	"math"
	"slices"
	"testing"

	"pomander/api"
	"pomander/flow"
)

// ends are the first and the last place of each Kind, of a form of two frames and two sectors, in order.
func ends() []api.Place {
	var l []api.Place
	for kind, last := range [18]int{-1, 7, 0, 0, 0, 0, 0, 0, 0, 0, 127, 3, 127, math.MaxInt32, math.MaxInt32, math.MaxInt32, math.MaxInt32, 1} {
		for _, n := range []int{0, last} {
			if p := place(api.PlaceKind(kind), n); last >= 0 && !slices.Contains(l, p) {
				l = append(l, p)
			}
		}
	}
	return l
}

// flowOf is a flow of two frames and two sectors that may keep so many sets.
func flowOf(t *testing.T, most int) *flow.Flow {
	t.Helper()
	f, errno := flow.New(api.Form{Frames: 2, Sectors: 2}, most)
	if errno != api.OK {
		t.Fatalf("New is %v", errno)
	}
	return f
}

func mark(t *testing.T, f *flow.Flow, p api.Place, many int, set uint32) {
	t.Helper()
	if errno := f.Mark(p, many, set); errno != api.OK {
		t.Fatalf("Mark(%v, %d, %d) is %v", p, many, set, errno)
	}
}

// has fails where other places have a label of a set; it is asked twice, and nothing of the flow is changed.
func has(t *testing.T, f *flow.Flow, set uint32, wanted ...api.Place) {
	t.Helper()
	before := f.Copy()
	for range 2 {
		if got, errno := Who(f, set); !slices.Equal(got, wanted) || errno != api.OK {
			t.Errorf("Who(%d) is %v, %v, not %v", set, got, errno, wanted)
		}
	}
	if !flow.Same(f, before) {
		t.Errorf("Who(%d) changed the flow", set)
	}
}

func TestWho(t *testing.T) { // P14.3
	f := flowOf(t, 9)
	for _, set := range []uint32{0, 1, 1 << 15, highestSet} {
		has(t, f, set)
	}
	mark(t, f, out(3), 1, 1<<15)
	mark(t, f, mem(63), 2, 6)
	mark(t, f, in(10), 1, 1)
	mark(t, f, in(9), 1, 3)
	mark(t, f, sector(1), 1, 4)
	mark(t, f, reg(7), 1, 5)
	mark(t, f, pc, 1, 8)
	for set, wanted := range map[uint32][]api.Place{
		0:              nil,
		1:              {reg(7), in(9), in(10)},
		2:              {mem(63), mem(64), in(9)},
		4:              {reg(7), mem(63), mem(64), sector(1)},
		8:              {pc},
		1 << 4:         nil,
		1 << 15:        {out(3)},
		3:              {reg(7), mem(63), mem(64), in(9), in(10)},
		5:              {reg(7), mem(63), mem(64), sector(1), in(9), in(10)},
		1<<15 | 8:      {pc, out(3)},
		1<<4 | 1:       {reg(7), in(9), in(10)},
		highestSet:     {reg(7), pc, mem(63), mem(64), sector(1), in(9), in(10), out(3)},
		highestSet - 5: {pc, mem(63), mem(64), in(9), out(3)},
	} {
		has(t, f, set, wanted...)
	}
	mark(t, f, mem(63), 1, 0) // as it is now
	mark(t, f, in(9), 1, 1)
	has(t, f, 2, mem(64))
}

// TestWhoOfEachPlace: each place that has a label is told, by rising Kind, then N, whenever it got it.
func TestWhoOfEachPlace(t *testing.T) { // P14.3
	all := flowOf(t, 2)
	for n := range ends() {
		p := ends()[len(ends())-1-n]
		for label := range api.MaxLabels {
			set := uint32(1) << label
			f := flowOf(t, 2)
			mark(t, f, p, 1, set)
			has(t, f, set, p)
			has(t, f, highestSet, p)
			has(t, f, highestSet-set)
			has(t, f, 0)
		}
		mark(t, all, p, 1, 1)
	}
	has(t, all, 1, ends()...)
	has(t, all, 2)
}

func TestWhoRefuses(t *testing.T) { // P14.3
	f := flowOf(t, 9)
	mark(t, f, reg(1), 1, highestSet)
	wrong := []uint32{1 << 16, 1<<16 | 1, 1<<17 - 1, 1 << 31, math.MaxUint32, math.MaxUint32 - highestSet}
	for _, set := range wrong {
		if got, errno := Who(f, set); len(got) != 0 || errno != api.ErrArg {
			t.Errorf("Who(%d) is %v, %v", set, got, errno)
		}
	}
	for name, none := range noFlows() {
		for _, set := range append(wrong, 0, 1, highestSet) { // ErrNil is the first
			if got, errno := Who(none, set); len(got) != 0 || errno != api.ErrNil {
				t.Errorf("%s: Who(%d) is %v, %v", name, set, got, errno)
			}
		}
	}
}

func TestWhoIsNewMemory(t *testing.T) { // P14.3
	f := flowOf(t, 9)
	mark(t, f, mem(5), 3, 1)
	first, _ := Who(f, 1)
	first[0] = out(9)
	_ = append(first[:1], out(8))
	has(t, f, 1, mem(5), mem(6), mem(7))
}

func TestText(t *testing.T) { // P14.3
	for kind, row := range []struct {
		name    string
		several bool
	}{
		{"none", false}, {"reg", true}, {"pc", false}, {"epc", false}, {"cause", false}, {"vec", false},
		{"table", false}, {"mode", false}, {"mask", false}, {"alarm", false}, {"mem", true}, {"tlb", true},
		{"sector", true}, {"in", true}, {"out", true}, {"packet", true}, {"sent", true}, {"ask", true},
	} {
		for n, number := range map[int]string{
			0: "0", 5: "5", 127: "127", math.MaxInt32: "2147483647", math.MaxInt64: "9223372036854775807",
			-1: "-1", -70: "-70", math.MinInt64: "-9223372036854775808",
		} {
			wanted := row.name
			if row.several {
				wanted += " " + number
			}
			if got := Text(place(api.PlaceKind(kind), n)); got != wanted {
				t.Errorf("Text of the Kind %d, %d is %q, not %q", kind, n, got, wanted)
			}
		}
	}
	if got := Text(api.Place{}); got != "none" {
		t.Errorf("Text of no place is %q", got)
	}
	if got := Text(place(api.PlaceAsk, 1)); got != "ask 1" {
		t.Errorf("Text of PlaceAsk 1 is %q", got)
	}
	for _, kind := range []api.PlaceKind{18, 19, 255, 256, 257, 1 << 32, 1<<32 + 1, math.MaxInt, -1, -2, -18, -255, math.MinInt, math.MinInt + 1} {
		for _, n := range []int{0, 1, -1, math.MaxInt, math.MinInt} {
			if got := Text(place(kind, n)); got != "?" {
				t.Errorf("Text of the Kind %d, %d is %q", kind, n, got)
			}
		}
	}
}
