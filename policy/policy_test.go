package policy

import (
	"slices"
	"testing"

	"pomander/api"
	"pomander/flow"
)

// each is every place of the rules: what gives it a set in rules, and what gives it one in a policy.
var each = map[string]struct {
	inRules func(*api.Rules, uint32)
	give    func(*Policy, uint32) api.Errno
}{
	"SourceImage":   {func(r *api.Rules, set uint32) { r.Sources[1] = set }, func(p *Policy, set uint32) api.Errno { return p.Source(api.SourceImage, set) }},
	"SourceDisk":    {func(r *api.Rules, set uint32) { r.Sources[2] = set }, func(p *Policy, set uint32) api.Errno { return p.Source(api.SourceDisk, set) }},
	"SourceConsole": {func(r *api.Rules, set uint32) { r.Sources[3] = set }, func(p *Policy, set uint32) api.Errno { return p.Source(api.SourceConsole, set) }},
	"SourceNet":     {func(r *api.Rules, set uint32) { r.Sources[4] = set }, func(p *Policy, set uint32) api.Errno { return p.Source(api.SourceNet, set) }},
	"SinkConsole":   {func(r *api.Rules, set uint32) { r.Sinks[1] = set }, func(p *Policy, set uint32) api.Errno { return p.Sink(api.SinkConsole, set) }},
	"SinkNet":       {func(r *api.Rules, set uint32) { r.Sinks[2] = set }, func(p *Policy, set uint32) api.Errno { return p.Sink(api.SinkNet, set) }},
	"SinkDisk":      {func(r *api.Rules, set uint32) { r.Sinks[3] = set }, func(p *Policy, set uint32) api.Errno { return p.Sink(api.SinkDisk, set) }},
	"SinkPc":        {func(r *api.Rules, set uint32) { r.Sinks[4] = set }, func(p *Policy, set uint32) api.Errno { return p.Sink(api.SinkPc, set) }},
	"Strict":        {func(r *api.Rules, set uint32) { r.Strict = set }, func(p *Policy, set uint32) api.Errno { return p.Strict(set) }},
}

// apart are rules each of whose sets is another one.
func apart() api.Rules {
	return api.Rules{Sources: [5]uint32{0, 1, 2, 4, 8}, Sinks: [5]uint32{0, 16, 32, 64, 128}, Strict: 256}
}

func TestNew(t *testing.T) { // P13.1
	p := New()
	if p == nil || p == New() {
		t.Fatalf("New is %v", p)
	}
	has(t, p, api.Rules{})
	f := labelled(t)
	for _, place := range ends() {
		tells(t, p, f, false, nil, touch(place, ends()...), decided(ends()...))
	}
	if errno := p.Strict(1); errno != api.OK {
		t.Errorf("Strict is %v", errno)
	}
	has(t, New(), api.Rules{}) // another one
}

func TestOf(t *testing.T) { // P13.1
	has(t, madeOf(t, api.Rules{}), api.Rules{})
	has(t, madeOf(t, apart()), apart())
	for name, row := range each {
		for _, set := range someSets {
			var alone api.Rules
			beside := apart()
			row.inRules(&alone, set)
			row.inRules(&beside, set)
			has(t, madeOf(t, alone), alone)
			has(t, madeOf(t, beside), beside)
			given := New() // and it is what giving the set makes
			if errno := row.give(given, set); errno != api.OK || given.Rules() != alone {
				t.Errorf("%s: with %d given, %v, it is %v", name, set, errno, given.Rules())
			}
		}
	}
	all := [5]uint32{0, highestSet, highestSet, highestSet, highestSet}
	has(t, madeOf(t, api.Rules{Sources: all, Sinks: all, Strict: highestSet}), api.Rules{Sources: all, Sinks: all, Strict: highestSet})
}

func TestOfRefuses(t *testing.T) { // P13.1
	refuses := func(name string, r api.Rules) {
		t.Helper()
		if p, errno := Of(r); p != nil || errno != api.ErrArg {
			t.Errorf("%s: Of(%v) is %v, %v", name, r, p, errno)
		}
	}
	for name, row := range each {
		for _, set := range noSets {
			var alone api.Rules
			beside := apart()
			row.inRules(&alone, set)
			row.inRules(&beside, set)
			refuses(name, alone)
			refuses(name, beside)
			for _, other := range each { // two that may not be
				both := beside
				other.inRules(&both, set)
				refuses(name, both)
			}
		}
	}
	for _, set := range slices.Concat(someSets[1:], noSets) { // the places 0
		for _, r := range []api.Rules{{}, apart()} {
			source, sink := r, r
			source.Sources[0], sink.Sinks[0] = set, set
			refuses("SourceNone", source)
			refuses("SinkNone", sink)
			source.Sinks[0] = set
			refuses("both", source)
		}
	}
}

func TestOfTakesACopy(t *testing.T) { // P13.1
	r := apart()
	p, other := madeOf(t, r), madeOf(t, r)
	r.Sources[1], r.Sinks[4], r.Strict = 77, 77, 77
	has(t, p, apart())
	told := p.Rules()
	told.Sources[2], told.Sinks[3] = 77, 77
	has(t, p, apart())
	if errno := p.Sink(api.SinkPc, 9); errno != api.OK {
		t.Errorf("Sink is %v", errno)
	}
	has(t, other, apart())
}

// TestGive: each set alone is another one, whatever was set before.
func TestGive(t *testing.T) { // P13.1
	for name, row := range each {
		for _, wanted := range []api.Rules{{}, apart()} {
			p := madeOf(t, wanted)
			for _, first := range someSets {
				for _, set := range append(slices.Clone(someSets), first, 2, 6, 4) {
					if errno := row.give(p, set); errno != api.OK {
						t.Errorf("%s: %d is %v", name, set, errno)
					}
					row.inRules(&wanted, set)
					has(t, p, wanted)
				}
			}
		}
	}
}

func TestGiveRefuses(t *testing.T) { // P13.1
	for _, wanted := range []api.Rules{{}, apart()} {
		p := madeOf(t, wanted)
		for name, row := range each {
			for _, set := range noSets {
				if errno := row.give(p, set); errno != api.ErrArg {
					t.Errorf("%s: %d is %v", name, set, errno)
				}
			}
		}
		for _, kind := range noKinds {
			for _, set := range slices.Concat(someSets, noSets) {
				if errno := p.Source(api.Source(kind), set); errno != api.ErrArg {
					t.Errorf("Source(%d, %d) is %v", kind, set, errno)
				}
				if errno := p.Sink(api.Sink(kind), set); errno != api.ErrArg {
					t.Errorf("Sink(%d, %d) is %v", kind, set, errno)
				}
			}
		}
		has(t, p, wanted)
	}
}

func TestCopyGoesOnApart(t *testing.T) { // P13.1
	for name, row := range each {
		p := madeOf(t, apart())
		other := p.Copy()
		if other == nil || other == p {
			t.Fatalf("%s: Copy is %v", name, other)
		}
		has(t, other, apart())
		ours, theirs := apart(), apart()
		row.inRules(&ours, 512)
		row.inRules(&theirs, 1024)
		if errno := row.give(p, 512); errno != api.OK {
			t.Errorf("%s: 512 is %v", name, errno)
		}
		has(t, other, apart())
		if errno := row.give(other, 1024); errno != api.OK {
			t.Errorf("%s: 1024 is %v", name, errno)
		}
		has(t, p, ours)
		has(t, other, theirs)
		has(t, other.Copy(), theirs)
	}
	f := start(t)
	strict := madeOf(t, api.Rules{Strict: 1, Sinks: [5]uint32{0, 1}})
	other := strict.Copy() // it tells what the first one tells
	tells(t, other, f, true, []api.Alert{alert(out(0), 1)}, decided(reg(1)), touch(out(0), reg(1)))
	strict.Strict(0)
	strict.Sink(api.SinkConsole, 0)
	tells(t, other, f, true, []api.Alert{alert(out(0), 1)}, decided(reg(1)), touch(out(0), reg(1)))
	tells(t, strict, f, false, nil, decided(reg(1)), touch(out(0), reg(1)))
}

func TestExamples(t *testing.T) { // P13.2
	f := flowOf(t, 4, map[api.Place]uint32{in(0): 1})
	p := madeOf(t, api.Rules{Strict: 1})
	move := touch(reg(1), in(0))
	tells(t, p, f, false, nil, move)
	if errno := f.Apply(move); errno != api.OK {
		t.Fatalf("Apply is %v", errno)
	}
	tells(t, p, f, true, nil, decided(reg(1)))
	tells(t, madeOf(t, api.Rules{Sinks: [5]uint32{0, 3}}), f, false, []api.Alert{alert(out(0), 1)}, touch(out(0), reg(1)))
}

func TestStops(t *testing.T) { // P13.2, P13.3
	for name, row := range map[string]struct {
		strict  uint32
		touches []api.Touch
		wanted  bool
	}{
		"no touches":                        {highestSet, nil, false},
		"none decides":                      {highestSet, []api.Touch{touch(reg(3), reg(1)), touch(mem(0), mem(64)), touch(pc, reg(2))}, false},
		"nothing decides":                   {highestSet, []api.Touch{decided()}, false},
		"nothing decides, an empty list":    {highestSet, []api.Touch{{From: []api.Place{}}}, false},
		"a place without a set":             {highestSet, []api.Touch{decided(reg(3), mem(63), in(5))}, false},
		"no label met":                      {highestSet - 3, []api.Touch{decided(reg(1))}, false},
		"the first label met":               {1, []api.Touch{decided(reg(1))}, true},
		"the other label met":               {2, []api.Touch{decided(reg(1))}, true},
		"one met, one not":                  {1 | 4 | 8, []api.Touch{decided(reg(1))}, true},
		"all met":                           {3, []api.Touch{decided(reg(1))}, true},
		"all met, and others":               {highestSet, []api.Touch{decided(reg(1))}, true},
		"one of all that decides":           {4, []api.Touch{decided(reg(3), reg(1), reg(2), mem(64))}, true},
		"none of all that decides":          {16, []api.Touch{decided(reg(1), reg(2), mem(64))}, false},
		"the first touch of several":        {1, []api.Touch{decided(reg(1)), decided(reg(2)), decided()}, true},
		"a touch in the middle":             {4, []api.Touch{decided(reg(1)), decided(reg(2)), decided(mem(64))}, true},
		"the last touch of several":         {8, []api.Touch{decided(reg(1)), decided(reg(2)), decided(mem(64))}, true},
		"no touch of several":               {16, []api.Touch{decided(reg(1)), decided(reg(2)), decided(mem(64))}, false},
		"behind others":                     {8, []api.Touch{touch(reg(3), reg(1)), touch(reg(4), reg(2)), decided(mem(64))}, true},
		"the label goes elsewhere":          {4, []api.Touch{touch(reg(3), reg(2)), decided(reg(1))}, false},
		"not as it will be: it gets it":     {1, []api.Touch{touch(reg(3), reg(1)), decided(reg(3))}, false},
		"as it was: it loses it":            {1, []api.Touch{touch(reg(1)), decided(reg(1))}, true},
		"an empty strict set":               {0, []api.Touch{decided(reg(1), reg(2), mem(64))}, false},
		"an empty strict set, none decides": {0, []api.Touch{touch(pc, reg(1))}, false},
	} {
		t.Run(name, func(t *testing.T) {
			tells(t, madeOf(t, api.Rules{Strict: row.strict}), start(t), row.wanted, nil, row.touches...)
			given := New()
			if errno := given.Strict(row.strict); errno != api.OK {
				t.Fatalf("Strict is %v", errno)
			}
			tells(t, given, start(t), row.wanted, nil, row.touches...)
		})
	}
}

// TestStopsOfEachPlace: each place decides, and no sources' and no sinks' set stops anything.
func TestStopsOfEachPlace(t *testing.T) { // P13.2
	all := [5]uint32{0, highestSet, highestSet, highestSet, highestSet}
	for _, from := range ends() {
		for label := range api.MaxLabels {
			set := uint32(1) << label
			f := flowOf(t, 2, nil)
			f.Mark(from, 1, set)
			tells(t, madeOf(t, api.Rules{Strict: set}), f, true, nil, decided(from))
			tells(t, madeOf(t, api.Rules{Strict: highestSet - set, Sources: all, Sinks: all}), f, false, nil, decided(from))
		}
	}
}

func TestStopsAsTheStrictSetIs(t *testing.T) { // P13.1, P13.2
	p, f := New(), start(t)
	for _, row := range []struct {
		strict uint32
		wanted bool
	}{{0, false}, {1, true}, {4, false}, {2, true}, {0, false}, {highestSet, true}} {
		p.Strict(row.strict)
		tells(t, p, f, row.wanted, nil, decided(reg(1)))
	}
}

func TestAlerts(t *testing.T) { // P13.2
	rules := api.Rules{Sources: [5]uint32{0, highestSet, highestSet, highestSet, highestSet}, Sinks: [5]uint32{0, 1, 5, 8, 14}}
	for name, row := range map[string]struct {
		touches []api.Touch
		wanted  []api.Alert
	}{
		"no touches":                 {nil, nil},
		"to no sink":                 {[]api.Touch{touch(reg(3), reg(1)), touch(mem(0), mem(64)), touch(in(0), reg(1))}, nil},
		"to PlaceNone":               {[]api.Touch{decided(reg(1), reg(2), mem(64))}, nil},
		"from nothing":               {[]api.Touch{touch(out(0)), {To: pc, From: []api.Place{}}, touch(sent(3)), touch(sector(127))}, nil},
		"from a place without a set": {[]api.Touch{touch(out(0), reg(3)), touch(pc, pc)}, nil},
		"one of two labels":          {[]api.Touch{touch(out(0), reg(1))}, []api.Alert{alert(out(0), 1)}},
		"the other one":              {[]api.Touch{touch(pc, reg(1))}, []api.Alert{alert(pc, 2)}},
		"no label of the sink's":     {[]api.Touch{touch(out(0), reg(2)), touch(sector(0), reg(1), reg(2)), touch(sent(0), mem(64))}, nil},
		"all of its set":             {[]api.Touch{touch(sector(0), mem(64))}, []api.Alert{alert(sector(0), 8)}},
		"all of the sink's":          {[]api.Touch{touch(sent(0), reg(1), reg(2), mem(64))}, []api.Alert{alert(sent(0), 5)}},
		"of all From together":       {[]api.Touch{touch(pc, reg(3), reg(2), pc, mem(64))}, []api.Alert{alert(pc, 12)}},
		"each alone and in order": {[]api.Touch{touch(pc, mem(64)), touch(reg(0), reg(1)), touch(sent(9), reg(2)), decided(reg(1)), touch(sector(64), mem(64)), touch(out(2), reg(2)), touch(out(1), reg(1))},
			[]api.Alert{alert(pc, 8), alert(sent(9), 4), alert(sector(64), 8), alert(out(1), 1)}},
		"another order": {[]api.Touch{touch(out(1), reg(1)), touch(sector(64), mem(64)), touch(sent(9), reg(2)), touch(pc, mem(64))},
			[]api.Alert{alert(out(1), 1), alert(sector(64), 8), alert(sent(9), 4), alert(pc, 8)}},
		"two to one place": {[]api.Touch{touch(pc, reg(1)), touch(pc, reg(2), mem(64))},
			[]api.Alert{alert(pc, 2), alert(pc, 12)}},
		"two alike to one place": {[]api.Touch{touch(out(5), reg(1)), touch(out(5), reg(1))},
			[]api.Alert{alert(out(5), 1), alert(out(5), 1)}},
		"two to one place, the last without": {[]api.Touch{touch(out(5), reg(1)), touch(out(5), reg(2)), touch(out(5))},
			[]api.Alert{alert(out(5), 1)}},
		"not as it will be: it gets it":  {[]api.Touch{touch(reg(3), reg(1)), touch(out(0), reg(3))}, nil},
		"as it was: it loses it":         {[]api.Touch{touch(reg(1)), touch(out(0), reg(1))}, []api.Alert{alert(out(0), 1)}},
		"a sink's place as another's":    {[]api.Touch{touch(sector(1), mem(64)), touch(out(0), sector(1))}, []api.Alert{alert(sector(1), 8)}},
		"what decides is not its touch":  {[]api.Touch{decided(reg(1)), touch(out(0), reg(2))}, nil},
		"behind those that don't alert":  {[]api.Touch{touch(out(0)), touch(out(1), reg(2)), touch(out(2), reg(1))}, []api.Alert{alert(out(2), 1)}},
		"ahead of those that don't":      {[]api.Touch{touch(out(2), reg(1)), touch(out(1), reg(2)), touch(out(0))}, []api.Alert{alert(out(2), 1)}},
		"of the last numbers that go on": {[]api.Touch{touch(out(1<<31-1), reg(1)), touch(sent(1<<31-1), reg(1))}, []api.Alert{alert(out(1<<31-1), 1), alert(sent(1<<31-1), 1)}},
	} {
		t.Run(name, func(t *testing.T) {
			tells(t, madeOf(t, rules), start(t), false, row.wanted, row.touches...)
			strict := rules // whether it stops changes no alerts
			strict.Strict = 16
			tells(t, madeOf(t, strict), start(t), false, row.wanted, row.touches...)
		})
	}
}

// TestAlertsOfEachPlace: of all places just those of a sink's Kind alert, by that sink's set alone.
func TestAlertsOfEachPlace(t *testing.T) { // P13.2
	sinkOf := map[api.PlaceKind]api.Sink{api.PlaceOut: 1, api.PlaceSent: 2, api.PlaceSector: 3, api.PlacePc: 4}
	f := labelled(t)
	for _, to := range append(ends(), api.Place{}) {
		for sink := api.SinkConsole; sink <= api.SinkPc; sink++ {
			for _, set := range someSets {
				p := New()
				if errno := p.Sink(sink, set); errno != api.OK {
					t.Fatalf("Sink(%d, %d) is %v", sink, set, errno)
				}
				var wanted []api.Alert
				if set != 0 && sinkOf[to.Kind] == sink {
					wanted = []api.Alert{alert(to, set)}
				}
				for _, from := range ends() {
					tells(t, p, f, false, wanted, touch(to, from))
				}
			}
		}
	}
}

func TestAlertsAreNewMemory(t *testing.T) { // P13.2
	p, f := madeOf(t, api.Rules{Sinks: [5]uint32{0, 3}}), start(t)
	l := []api.Touch{touch(out(0), reg(1)), touch(out(1), reg(1))}
	first, _ := p.Alerts(f, l...)
	second, _ := p.Alerts(f, l...)
	wanted := []api.Alert{alert(out(0), 3), alert(out(1), 3)}
	first[0] = api.Alert{}
	_ = append(first[:1], api.Alert{})
	if !slices.Equal(second, wanted) {
		t.Errorf("another answer is %v", second)
	}
	tells(t, p, f, false, wanted, l...)
}

func TestTouchesThatMayNotBe(t *testing.T) { // P13.2
	f := start(t)
	before := f.Copy()
	may := []api.Touch{touch(out(0), reg(1)), decided(reg(1)), touch(reg(3), reg(2))} // they alert, and stop
	for _, p := range []*Policy{New(), madeOf(t, api.Rules{Strict: highestSet, Sinks: [5]uint32{0, 1, 1, 1, 1}})} {
		for _, wrong := range noPlaces() {
			for _, l := range []api.Touch{touch(wrong), touch(wrong, reg(1)), touch(out(0), wrong), touch(reg(3), reg(1), wrong), decided(wrong), decided(reg(1), wrong, reg(2))} {
				refuses(t, p, f, api.ErrArg, l)
				for at := range len(may) + 1 {
					refuses(t, p, f, api.ErrArg, slices.Insert(slices.Clone(may), at, l)...)
				}
				refuses(t, p, f, api.ErrArg, l, l)
			}
		}
		for _, l := range []api.Touch{touch(out(0), api.Place{}), decided(api.Place{}), decided(reg(1), api.Place{})} { // none has no set
			refuses(t, p, f, api.ErrArg, l)
			refuses(t, p, f, api.ErrArg, append(slices.Clone(may), l)...)
		}
	}
	if !flow.Same(f, before) {
		t.Errorf("what was refused changed the flow")
	}
}

// TestFormsOfTheFlow: which touches may be hangs on the flow that is asked.
func TestFormsOfTheFlow(t *testing.T) { // P13.2
	p := madeOf(t, api.Rules{Strict: 1, Sinks: [5]uint32{0, 0, 0, 1}})
	small, errno := flow.New(api.Form{Frames: 1, Sectors: 1}, 9)
	if errno != api.OK {
		t.Fatalf("New is %v", errno)
	}
	big := flowOf(t, 9, map[api.Place]uint32{mem(127): 1})
	l := []api.Touch{touch(sector(127), mem(127)), decided(mem(127))}
	refuses(t, p, small, api.ErrArg, l...)
	tells(t, p, big, true, []api.Alert{alert(sector(127), 1)}, l...)
}

func TestNone(t *testing.T) { // P13.1, P13.2
	f, wrong := start(t), touch(reg(8), reg(8))
	for name, p := range noPolicies() {
		for _, kind := range append([]int{1, 2, 3, 4}, noKinds...) { // ErrNil is the first
			for _, set := range []uint32{0, 1, 1 << 16} {
				if a, b := p.Source(api.Source(kind), set), p.Sink(api.Sink(kind), set); a != api.ErrNil || b != api.ErrNil {
					t.Errorf("%s: Source(%d, %d) is %v, Sink %v", name, kind, set, a, b)
				}
				if errno := p.Strict(set); errno != api.ErrNil {
					t.Errorf("%s: Strict(%d) is %v", name, set, errno)
				}
			}
		}
		has(t, p, api.Rules{})
		if other := p.Copy(); other != nil {
			t.Errorf("%s: Copy is %v", name, other)
		}
		for _, l := range [][]api.Touch{nil, {touch(out(0), reg(1))}, {decided(reg(1))}, {wrong}} {
			refuses(t, p, f, api.ErrNil, l...)
			for _, none := range noFlows() {
				refuses(t, p, none, api.ErrNil, l...)
			}
		}
	}
	for _, none := range noFlows() { // ahead of touches that may not be
		for _, p := range []*Policy{New(), madeOf(t, apart())} {
			for _, l := range [][]api.Touch{nil, {touch(out(0), reg(1))}, {decided(reg(1))}, {wrong}, {touch(api.Place{}, api.Place{})}} {
				refuses(t, p, none, api.ErrNil, l...)
			}
		}
	}
}

func TestWhatIsHandedInStays(t *testing.T) { // P13.2
	p, f := madeOf(t, api.Rules{Strict: 8, Sinks: [5]uint32{0, highestSet}}), start(t)
	from := []api.Place{reg(1), reg(2), reg(3)}
	room := []api.Touch{{To: out(0), From: from[:2]}, {From: from[1:2]}, {To: mem(0), From: from[:2]}}
	tells(t, p, f, false, []api.Alert{alert(out(0), 7)}, room[:2]...)
	if !slices.Equal(from, []api.Place{reg(1), reg(2), reg(3)}) || room[0].To != out(0) || room[2].To != mem(0) || len(room[0].From) != 2 || len(room[1].From) != 1 || len(room[2].From) != 2 {
		t.Errorf("what was handed in is %v, %v", from, room)
	}
	alerts, _ := p.Alerts(f, room[:2]...)
	room[0].To = out(9) // and is not kept
	if !slices.Equal(alerts, []api.Alert{alert(out(0), 7)}) {
		t.Errorf("behind it the alerts are %v", alerts)
	}
}
