package policy

import (
	"math"
	"slices"
	"testing"

	"pomander/api"
	"pomander/flow"
)

const highestSet = 1<<api.MaxLabels - 1

var (
	// someSets are sets at the edges: of no label, of the first, of the last, of some, of all.
	someSets = []uint32{0, 1, 1 << 15, 1<<15 - 1, 0x5aa5, highestSet}
	// noSets are words with a bit that is no label, labels beside it or not.
	noSets = []uint32{1 << 16, 1<<16 | 1, 1<<17 - 1, 1 << 31, math.MaxUint32, math.MaxUint32 - highestSet}
	// noKinds are numbers of no source, and of no sink.
	noKinds = []int{0, 5, 6, 16, 255, 256, 257, 1 << 32, 1<<32 + 1, math.MaxInt, -1, -2, -4, -256, math.MinInt, math.MinInt + 1}
)

// noPolicies are policies that New and Of did not make: their answers are those of none.
func noPolicies() map[string]*Policy {
	refused, _ := Of(api.Rules{Strict: 1 << 16})
	return map[string]*Policy{"nil": nil, "refused": refused, "zero": {}}
}

// noFlows are flows that none made.
func noFlows() map[string]*flow.Flow {
	refused, _ := flow.New(api.Form{}, 9)
	return map[string]*flow.Flow{"nil": nil, "refused": refused, "zero": {}}
}

func place(kind api.PlaceKind, n int) api.Place { return api.Place{Kind: kind, N: n} }

func reg(n int) api.Place    { return place(api.PlaceReg, n) }
func mem(n int) api.Place    { return place(api.PlaceMem, n) }
func sector(n int) api.Place { return place(api.PlaceSector, n) }
func in(n int) api.Place     { return place(api.PlaceIn, n) }
func out(n int) api.Place    { return place(api.PlaceOut, n) }
func sent(n int) api.Place   { return place(api.PlaceSent, n) }

var pc = place(api.PlacePc, 0)

// touch goes to a place.
func touch(to api.Place, from ...api.Place) api.Touch { return api.Touch{To: to, From: from} }

// decided goes to no place.
func decided(from ...api.Place) api.Touch { return api.Touch{From: from} }

func alert(p api.Place, set uint32) api.Alert { return api.Alert{Place: p, Set: set} }

// ends are the first and the last place of each Kind, of a form of two frames and two sectors.
func ends() []api.Place {
	var l []api.Place
	for kind, last := range [18]int{-1, 7, 0, 0, 0, 0, 0, 0, 0, 0, 127, 3, 127, math.MaxInt32, math.MaxInt32, math.MaxInt32, math.MaxInt32, 1} {
		for _, n := range []int{0, last} {
			if p := place(api.PlaceKind(kind), n); last >= 0 && !slices.Contains(l, p) {
				l = append(l, p)
			}
		}
	}
	return l
}

// noPlaces are places that may not be in that form, as To and in From alike.
func noPlaces() []api.Place {
	return []api.Place{
		place(api.PlaceNone, 1), place(api.PlaceNone, -1), place(18, 0), place(-1, 0), place(math.MaxInt, 0), place(math.MinInt, 0),
		reg(8), reg(-1), mem(128), mem(-1), sector(128), sector(-1), place(api.PlacePc, 1), place(api.PlacePc, -1),
		in(1 << 31), in(-1), out(1 << 31), out(-1), sent(1 << 31), sent(math.MinInt), place(api.PlaceTlb, 4), place(api.PlaceAsk, 2),
	}
}

func madeOf(t *testing.T, r api.Rules) *Policy {
	t.Helper()
	p, errno := Of(r)
	if p == nil || errno != api.OK {
		t.Fatalf("Of(%v) is %v, %v", r, p, errno)
	}
	return p
}

// flowOf is a flow of two frames and two sectors, whose sets are these.
func flowOf(t *testing.T, most int, sets map[api.Place]uint32) *flow.Flow {
	t.Helper()
	f, errno := flow.New(api.Form{Frames: 2, Sectors: 2}, most)
	if errno != api.OK {
		t.Fatalf("New is %v", errno)
	}
	for _, set := range []uint32{1, 2, 3, 4, 8} { // in an order that does not hang on that of a map
		for p, of := range sets {
			if of == set && f.Mark(p, 1, set) != api.OK {
				t.Fatalf("%v can't have %d", p, set)
			}
		}
	}
	return f
}

// start is a flow in which just as many sets are kept as may be: register 1 has 3, 2 has 4, a byte 8.
func start(t *testing.T) *flow.Flow {
	t.Helper()
	return flowOf(t, 4, map[api.Place]uint32{reg(1): 3, reg(2): 4, mem(64): 8})
}

// labelled is a flow in which a place of each Kind, and each last one, has all labels.
func labelled(t *testing.T) *flow.Flow {
	t.Helper()
	f := flowOf(t, 2, nil)
	for _, p := range ends() {
		if errno := f.Mark(p, 1, highestSet); errno != api.OK {
			t.Fatalf("%v can't have all: %v", p, errno)
		}
	}
	return f
}

// has fails where a policy has other rules.
func has(t *testing.T, p *Policy, wanted api.Rules) {
	t.Helper()
	if got := p.Rules(); got != wanted {
		t.Errorf("Rules is %v, not %v", got, wanted)
	}
}

// tells fails where touches stop a policy, or not, or have other alerts; both are asked twice, and nothing of the flow is changed.
func tells(t *testing.T, p *Policy, f *flow.Flow, stops bool, alerts []api.Alert, l ...api.Touch) {
	t.Helper()
	before, rules := f.Copy(), p.Rules()
	for range 2 {
		if got, errno := p.Stops(f, l...); got != stops || errno != api.OK {
			t.Errorf("%v: Stops(%v) is %t, %v", rules, l, got, errno)
		}
		if got, errno := p.Alerts(f, l...); !slices.Equal(got, alerts) || errno != api.OK {
			t.Errorf("%v: Alerts(%v) is %v, %v, not %v", rules, l, got, errno, alerts)
		}
	}
	if !flow.Same(f, before) {
		t.Errorf("%v: %v changed the flow", rules, l)
	}
	has(t, p, rules)
}

// refuses fails where touches are not refused so.
func refuses(t *testing.T, p *Policy, f *flow.Flow, wanted api.Errno, l ...api.Touch) {
	t.Helper()
	if stops, errno := p.Stops(f, l...); stops || errno != wanted {
		t.Errorf("Stops(%v) is %t, %v, not %v", l, stops, errno, wanted)
	}
	if alerts, errno := p.Alerts(f, l...); len(alerts) != 0 || errno != wanted {
		t.Errorf("Alerts(%v) is %v, %v, not %v", l, alerts, errno, wanted)
	}
}
