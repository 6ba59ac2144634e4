package tower

import (
	"bytes"
	"maps"
	"math"
	"slices"
	"testing"

	"pomander/api"
	"pomander/board"
	"pomander/flow"
)

// fullRules are rules of all labels.
func fullRules() api.Rules {
	all := [5]uint32{0, highestSet, highestSet, highestSet, highestSet}
	return api.Rules{Sources: all, Sinks: all, Strict: highestSet}
}

func TestNew(t *testing.T) { // P15.1, P15.2
	several := api.Rules{Sources: [5]uint32{0, 1, 2, 3, 1 << 15}, Sinks: [5]uint32{0, 5, 6, 7, 8}, Strict: 9}
	for _, s := range []api.Setup{
		{Form: form(1, 1), Track: true, Most: 1},
		{Form: form(1, 1), Track: true, Most: highest},
		{Form: form(32, 32), Track: true, Most: 1, Rules: fullRules()},
		{Form: form(32, 1), Track: true, Most: highest, Rules: fullRules()},
		{Form: form(1, 32), Track: true, Most: 2, Rules: several},
		{Form: form(1, 1)},
		{Form: form(32, 32)},
		{Form: form(32, 32), Rules: fullRules()},
		{Form: form(2, 3), Rules: several},
	} {
		x := made(t, s)
		if got := x.Setup(); got != s {
			t.Errorf("Setup is %v, not %v", got, s)
		}
		wanted, _ := board.New(s.Form)
		if !board.Same(x.Board(), wanted) {
			t.Errorf("%v: its board is another one", s)
		}
		f, h := x.Flow(), x.History()
		if (f != nil) != s.Track || (h != nil) != s.Track {
			t.Errorf("%v: its flow is %v, its history %v", s, f, h)
		}
		if empty, _ := flow.New(s.Form, max(s.Most, 1)); s.Track && (!flow.Same(f, empty) || h.Len() != 0) {
			t.Errorf("%v: it has sets, or notes", s)
		}
	}
}

func TestNewRefuses(t *testing.T) { // P15.1
	good, refused := form(1, 1), []api.Setup{{}, {Track: true, Most: 1}, {Track: true}, {Most: 1}}
	for _, n := range []int{0, -1, 33, 64, 1 << 32, 1<<32 + 1, math.MinInt, math.MaxInt} {
		for _, f := range []api.Form{form(n, 1), form(1, n), form(n, n)} {
			refused = append(refused, api.Setup{Form: f}, api.Setup{Form: f, Track: true, Most: 1})
		}
	}
	for _, most := range []int{0, -1, highest + 1, 1 << 32, 1<<32 + 1, math.MinInt, math.MaxInt} {
		refused = append(refused, api.Setup{Form: good, Track: true, Most: most})
	}
	for _, most := range []int{1, 2, highest, -1, highest + 1, math.MinInt, math.MaxInt} {
		refused = append(refused, api.Setup{Form: good, Most: most})
	}
	for _, set := range append(slices.Clone(noSets), 1) {
		rules := []api.Rules{{Sources: [5]uint32{set}}, {Sinks: [5]uint32{set}}}
		for kind := 1; kind < 5 && set != 1; kind++ {
			var source, sink api.Rules
			source.Sources[kind], sink.Sinks[kind] = set, set
			rules = append(rules, source, sink, api.Rules{Strict: set})
		}
		for _, r := range rules {
			refused = append(refused, api.Setup{Form: good, Rules: r}, api.Setup{Form: good, Track: true, Most: 1, Rules: r})
		}
	}
	for _, s := range refused {
		if x, errno := New(s); x != nil || errno != api.ErrArg {
			t.Errorf("New(%v) is %v, %v", s, x, errno)
		}
	}
}

// calls are all calls of a tower that answer an error, with what may be and with what may not.
func calls(x *Tower) map[string]func() api.Errno {
	run := func(n int) func() api.Errno {
		return func() api.Errno {
			ran, errno := x.Run(n)
			if errno != api.OK && !like(ran, api.Ran{}) {
				return -1
			}
			return errno
		}
	}
	return map[string]func() api.Errno{
		"Load":         func() api.Errno { return x.Load(0, []byte{1}) },
		"Load nothing": func() api.Errno { return x.Load(0, nil) },
		"Load away":    func() api.Errno { return x.Load(-1, nil) },
		"Write":        func() api.Errno { return x.Write(0, []byte{1}) },
		"Write away":   func() api.Errno { return x.Write(99, make([]byte, 99)) },
		"Type":         func() api.Errno { return x.Type([]byte{1}) },
		"Type long":    func() api.Errno { return x.Type(make([]byte, 257)) },
		"Send":         func() api.Errno { return x.Send([]byte{1}) },
		"Send long":    func() api.Errno { return x.Send(make([]byte, 65)) },
		"Run":          run(1),
		"Run of none":  run(0),
		"Run of less":  run(-1),
		"Run of more":  run(highest + 1),
		"Source":       func() api.Errno { return x.Source(api.SourceDisk, 1) },
		"Source none":  func() api.Errno { return x.Source(api.SourceNone, 1<<16) },
		"Sink":         func() api.Errno { return x.Sink(api.SinkDisk, 1) },
		"Sink none":    func() api.Errno { return x.Sink(9, 1<<16) },
		"Strict":       func() api.Errno { return x.Strict(1) },
		"Strict none":  func() api.Errno { return x.Strict(1 << 16) },
	}
}

func TestNone(t *testing.T) { // P15.1, P15.2
	for name, x := range noTowers() {
		for call, do := range calls(x) {
			if errno := do(); errno != api.ErrNil {
				t.Errorf("%s: %s is %v", name, call, errno)
			}
		}
		if x.Setup() != (api.Setup{}) || x.Board() != nil || x.Flow() != nil || x.History() != nil || x.Copy() != nil {
			t.Errorf("%s: it has something", name)
		}
	}
}

// comings are the four ways by which something comes, each with its source, the places of what comes first, and how much may come.
func comings(x *Tower) []struct {
	source api.Source
	first  api.Place
	most   int
	come   func(b []byte) api.Errno
} {
	return []struct {
		source api.Source
		first  api.Place
		most   int
		come   func(b []byte) api.Errno
	}{
		{api.SourceImage, mem(0), 128, func(b []byte) api.Errno { return x.Load(0, b) }},
		{api.SourceImage, mem(100), 28, func(b []byte) api.Errno { return x.Load(100, b) }},
		{api.SourceImage, mem(127), 1, func(b []byte) api.Errno { return x.Load(127, b) }},
		{api.SourceDisk, sector(0), 64, func(b []byte) api.Errno { return x.Write(0, b) }},
		{api.SourceDisk, sector(64), 64, func(b []byte) api.Errno { return x.Write(1, b) }},
		{api.SourceConsole, typed(0), 256, x.Type},
		{api.SourceNet, packet(0), 64, x.Send},
	}
}

// TestComes: what comes stands on the board as one by itself has it, and has its source's set, none of the others'.
func TestComes(t *testing.T) { // P15.1
	for _, s := range []api.Setup{tracking(9, sources(1, 2, 4, 8)), tracking(2, sources(highestSet, highestSet, highestSet, highestSet)), tracking(1, api.Rules{}), {Form: form(2, 2), Rules: sources(1, 2, 4, 8)}} {
		for n := range comings(nil) {
			for _, much := range []int{0, 1, 2, math.MaxInt} {
				x := made(t, s)
				way := comings(x)[n]
				content := bytes.Repeat([]byte("content."), 99)[:min(much, way.most)]
				list, changed := spare(content)
				alike := x.Board()
				for _, same := range []func() api.Errno{
					func() api.Errno { return way.come(list) },
					func() api.Errno { return comesToBoard(alike, way.first, content) },
				} {
					comes(t, same())
				}
				if !board.Same(x.Board(), alike) {
					t.Errorf("%v: %d bytes at %v: the board is another one", s, len(content), way.first)
				}
				if changed() {
					t.Errorf("%v: what came to %v was changed", s, way.first)
				}
				clear(list)
				if !board.Same(x.Board(), alike) {
					t.Errorf("%v: what came to %v was kept", s, way.first)
				}
				if x.Setup() != s {
					t.Errorf("the setup is %v, not %v", x.Setup(), s)
				}
				if !s.Track {
					continue
				}
				set, wanted, kept := s.Rules.Sources[way.source], map[api.Place]uint32{}, []uint32{0}
				for behind := range content {
					wanted[place(way.first.Kind, way.first.N+behind)] = set
				}
				if set == 0 {
					clear(wanted)
				} else {
					kept = append(kept, set)
				}
				haveAlone(t, x, wanted)
				keeps(t, x, kept...)
				if x.History().Len() != 0 {
					t.Errorf("%v: what comes to %v is noted", s, way.first)
				}
			}
		}
	}
}

// comesToBoard lets what comes to a place come to a board by itself.
func comesToBoard(b *board.Board, p api.Place, content []byte) (errno api.Errno) {
	switch p.Kind {
	case api.PlaceMem:
		errno = b.Load(p.N, content)
	case api.PlaceSector:
		errno = b.Write(p.N/64, content)
	case api.PlaceIn:
		_, errno = b.Type(content)
	case api.PlacePacket:
		_, errno = b.Send(content)
	}
	return errno
}

// TestComesBehind: bytes are numbered behind those that came before, also those that were taken; what comes anew has the set that its source has then, or none.
func TestComesBehind(t *testing.T) { // P15.1
	x := made(t, tracking(9, sources(0, 1, 2, 4)), "in r1, 0", "jal r2, -1")
	comes(t, x.Type([]byte("ab")))
	goes(t, x, 4, 4, api.RanOut) // both are taken
	comes(t, x.Source(api.SourceConsole, 0))
	comes(t, x.Type([]byte("c")))
	comes(t, x.Source(api.SourceConsole, 8))
	comes(t, x.Type([]byte("de")))
	for n, set := range []uint32{2, 2, 0, 8, 8, 0} {
		has(t, x, typed(n), set)
	}
	comes(t, x.Send([]byte("abc")))
	comes(t, x.Source(api.SourceNet, 1))
	comes(t, x.Send(nil))
	comes(t, x.Send([]byte("d")))
	for n, set := range []uint32{4, 4, 4, 1, 0} {
		has(t, x, packet(n), set)
	}
	comes(t, x.Write(1, []byte("abcd")))
	comes(t, x.Source(api.SourceDisk, 0))
	comes(t, x.Write(1, []byte("ef")))
	for n, set := range []uint32{0, 0, 1, 1, 0} {
		has(t, x, sector(64+n), set)
	}
	if got := x.Board().Disk()[64:69]; string(got) != "efcd\x00" {
		t.Errorf("the sector has %q", got)
	}
	comes(t, x.Source(api.SourceImage, 2))
	comes(t, x.Load(100, []byte("abcd")))
	comes(t, x.Source(api.SourceImage, 0))
	comes(t, x.Load(102, []byte("x")))
	for n, set := range []uint32{0, 2, 2, 0, 2, 0} {
		has(t, x, mem(99+n), set)
	}
}

// TestBoardRefuses: what the board refuses is not there, nor has it a set, nor is that kept; that sets are full, too, is not asked.
func TestBoardRefuses(t *testing.T) { // P15.1
	long := func(n int) []byte { return bytes.Repeat([]byte{7}, n) }
	for name, s := range map[string]api.Setup{
		"room":  tracking(9, sources(1, 2, 4, 8)),
		"full":  tracking(1, sources(1, 2, 4, 8)),
		"empty": tracking(1, api.Rules{}),
		"none":  {Form: form(2, 2), Rules: sources(1, 2, 4, 8)},
	} {
		x := made(t, s)
		for at, errno := range map[int]api.Errno{-1: api.ErrRange, 128: api.ErrRange, 129: api.ErrRange, math.MinInt: api.ErrRange, math.MaxInt: api.ErrRange, 1 << 32: api.ErrRange} {
			for _, n := range []int{0, 1, 129} {
				refused(t, name, x, errno, func() api.Errno { return x.Load(at, long(n)) })
			}
		}
		for at, n := range map[int]int{0: 129, 1: 128, 127: 2, 64: 65} {
			refused(t, name, x, api.ErrLong, func() api.Errno { return x.Load(at, long(n)) })
		}
		for _, n := range []int{-1, 2, 3, 64, 1 << 32, math.MinInt, math.MaxInt, math.MaxInt/64 + 1} {
			refused(t, name, x, api.ErrRange, func() api.Errno { return x.Write(n, nil) })
			refused(t, name, x, api.ErrRange, func() api.Errno { return x.Write(n, long(65)) })
		}
		refused(t, name, x, api.ErrLong, func() api.Errno { return x.Write(1, long(65)) })
		refused(t, name, x, api.ErrLong, func() api.Errno { return x.Type(long(257)) })
		refused(t, name, x, api.ErrLong, func() api.Errno { return x.Send(long(65)) })
		comes(t, x.Source(api.SourceConsole, 0))
		comes(t, x.Source(api.SourceNet, 0))
		comes(t, x.Type(long(255)))
		for range api.MaxWaits {
			comes(t, x.Send(nil))
		}
		comes(t, x.Source(api.SourceConsole, 16))
		comes(t, x.Source(api.SourceNet, 16))
		refused(t, name, x, api.ErrLong, func() api.Errno { return x.Type(long(2)) })
		refused(t, name, x, api.ErrLong, func() api.Errno { return x.Send(nil) })
	}
}

// refused fails where a call is not refused so, or changes something.
func refused(t *testing.T, name string, x *Tower, wanted api.Errno, call func() api.Errno) {
	t.Helper()
	before := stands(x)
	if errno := call(); errno != wanted {
		t.Errorf("%s: refused by %v, not %v", name, errno, wanted)
	}
	before.stays(t, name, x)
}

// TestSetsFull: what comes with a set that can't be kept is not there either, also where it is nothing.
func TestSetsFull(t *testing.T) { // P15.1 (P0.4)
	x := made(t, tracking(3, sources(1, 1, 2, 2)))
	comes(t, x.Load(0, []byte{1}))
	comes(t, x.Type([]byte{1})) // as many as may be kept
	for source := api.SourceImage; source <= api.SourceNet; source++ {
		comes(t, x.Source(source, 3))
	}
	for _, way := range comings(x) {
		for _, n := range []int{0, 1, min(way.most, api.MaxWaits-1)} { // a byte waits already
			refused(t, "full", x, api.ErrFull, func() api.Errno { return way.come(bytes.Repeat([]byte{9}, n)) })
		}
	}
	for source := api.SourceImage; source <= api.SourceNet; source++ { // what is kept may come again, and what has no set
		comes(t, x.Source(source, uint32(source)%3))
	}
	for _, way := range comings(x)[1:] {
		comes(t, way.come([]byte{9}))
	}
	haveAlone(t, x, map[api.Place]uint32{mem(0): 1, mem(100): 1, mem(127): 1, sector(0): 2, sector(64): 2, typed(0): 2, packet(0): 1})
	keeps(t, x, 0, 1, 2)
}

// TestGreatestBound: of a bound of 65536 all sets that there are may be kept.
func TestGreatestBound(t *testing.T) { // P15.1
	x := made(t, tracking(highest, api.Rules{}))
	for set := range uint32(highest) {
		comes(t, x.Source(api.SourceImage, set))
		comes(t, x.Load(int(set)%128, []byte{byte(set)}))
	}
	has(t, x, mem(127), highest-1)
	has(t, x, mem(0), highest-128)
	if got := x.Flow().Sets(); len(got) != highest {
		t.Errorf("%d sets are kept", len(got))
	}
}

// TestRules: sources, sinks and the strict set are given as a policy gives them.
func TestRules(t *testing.T) { // P15.1, P15.2
	for _, s := range []api.Setup{tracking(9, fullRules()), tracking(9, api.Rules{}), {Form: form(2, 2), Rules: fullRules()}} {
		x, wanted := made(t, s), s
		for kind := 1; kind < 5; kind++ {
			for _, set := range []uint32{0, 1, 1 << 15, highestSet, uint32(kind)} {
				comes(t, x.Source(api.Source(kind), set))
				comes(t, x.Sink(api.Sink(kind), highestSet-set))
				comes(t, x.Strict(set^5))
				wanted.Rules.Sources[kind], wanted.Rules.Sinks[kind], wanted.Rules.Strict = set, highestSet-set, set^5
				if got := x.Setup(); got != wanted {
					t.Errorf("Setup is %v, not %v", got, wanted)
				}
			}
		}
		for _, kind := range []int{0, 5, -1, 256, 257, 1<<32 + 1, math.MinInt, math.MaxInt} {
			for _, set := range append(slices.Clone(noSets), 1, 0) {
				refused(t, "a source that is none", x, api.ErrArg, func() api.Errno { return x.Source(api.Source(kind), set) })
				refused(t, "a sink that is none", x, api.ErrArg, func() api.Errno { return x.Sink(api.Sink(kind), set) })
			}
		}
		for _, set := range noSets {
			refused(t, "a source's set", x, api.ErrArg, func() api.Errno { return x.Source(api.SourceNet, set) })
			refused(t, "a sink's set", x, api.ErrArg, func() api.Errno { return x.Sink(api.SinkPc, set) })
			refused(t, "a strict set", x, api.ErrArg, func() api.Errno { return x.Strict(set) })
		}
	}
}

// TestToldAreCopies: what is told may be changed, and the tower stays as it is.
func TestToldAreCopies(t *testing.T) { // P15.2
	for name, x := range someTowers(t) {
		before := stands(x)
		for range 2 {
			b, f, h := x.Board(), x.Flow(), x.History()
			b.Load(0, []byte{1, 2, 3, 4})
			b.Type([]byte("typed"))
			b.Send([]byte("sent"))
			b.Write(0, []byte("written"))
			b.Step()
			clear(x.Board().Memory())
			f.Mark(reg(5), 1, 1)
			f.Mark(mem(0), 64, 0)
			f.Apply(api.Touch{To: typed(0)}, api.Touch{To: reg(1)})
			h.Add(math.MaxInt64, api.Touch{To: reg(1), From: []api.Place{reg(2)}})
			for _, note := range h.Notes(reg(1)) {
				clear(note.From)
			}
			before.stays(t, name, x)
		}
	}
}

// TestCopy: it stands as the tower does, and each goes on apart.
func TestCopy(t *testing.T) { // P15.2
	for name, x := range someTowers(t) {
		before := stands(x)
		for range 2 {
			before.stays(t, name, x.Copy())
			before.stays(t, name, x.Copy().Copy())
			before.stays(t, name, x)
			changed := changes(x.Copy())
			for _, call := range slices.Sorted(maps.Keys(changed)) {
				changed[call]()
				before.stays(t, name+", behind its copy's "+call, x)
			}
			other := x.Copy()
			changed = changes(x)
			for _, call := range slices.Sorted(maps.Keys(changed)) {
				changed[call]()
				before.stays(t, name+"'s copy, behind its "+call, other)
			}
			x = other
		}
	}
}

// changes are calls that change a tower.
func changes(x *Tower) map[string]func() {
	return map[string]func(){
		"Load":   func() { x.Load(0, []byte{1, 2, 3, 4, 5}) },
		"Write":  func() { x.Write(0, []byte("written")) },
		"Type":   func() { x.Type([]byte("typed")) },
		"Send":   func() { x.Send([]byte("sent")) },
		"Run":    func() { x.Run(3) },
		"Source": func() { x.Source(api.SourceImage, 7) },
		"Sink":   func() { x.Sink(api.SinkPc, 7) },
		"Strict": func() { x.Strict(7) },
	}
}

// TestCopyGoesOnAlike: to the copy of a tower the same is done as to the tower.
func TestCopyGoesOnAlike(t *testing.T) { // P15.2
	for name, x := range someTowers(t) {
		other := x.Copy()
		for _, call := range slices.Sorted(maps.Keys(calls(x))) {
			if a, b := calls(x)[call](), calls(other)[call](); a != b {
				t.Errorf("%s: %s is %v, of the copy %v", name, call, a, b)
			}
			a, errnoA := x.Run(2)
			b, errnoB := other.Run(2)
			if !like(a, b) || errnoA != errnoB {
				t.Errorf("%s: behind %s a run is %v, of the copy %v", name, call, a, b)
			}
			stands(x).stays(t, name, other)
		}
	}
}
