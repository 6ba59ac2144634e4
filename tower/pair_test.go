package tower

import (
	"bytes"
	"testing"

	"pomander/api"
	"pomander/board"
	"pomander/flow"
)

// TestBesideOneThatDoesNotTrack: up to the first step that is not done, or what comes and has no room, one that tracks has the board of one that does not, run by run or step by step.
func TestBesideOneThatDoesNotTrack(t *testing.T) { // P15.3 (P0.1)
	ends := tally{}
	for seed := range uint32(400) {
		c := steady(seed)
		s := c.anySetup()
		s.Track, s.Most = true, max(s.Most, 3)
		x, y := made(t, s), made(t, api.Setup{Form: s.Form, Rules: s.Rules})
		todo := c.start(t, s)
		for range 20 {
			e := c.event(s.Form)
			todo = append(todo, e)
			if e.kind == goesOn && seed%2 == 0 {
				for range e.n {
					todo = append(todo, event{kind: goesOn, n: 1})
				}
			}
		}
		why := api.RanOut
		for n, e := range todo {
			ran, errno := e.does(x)
			if why = ran.Why; errno == api.ErrFull {
				why = api.RanFull
				break
			}
			if why > api.RanHalted {
				e.n = ran.Steps
			}
			alone, aloneErrno := e.does(y)
			if len(alone.Alerts) > 0 || y.Flow() != nil || y.History() != nil {
				t.Fatalf("seed %d, event %d: one that does not track tells of sets", seed, n)
			}
			if alone.Alerts = ran.Alerts; why > api.RanHalted {
				alone.Why = why
			}
			if errno != aloneErrno || !like(ran, alone) || !board.Same(x.Board(), y.Board()) {
				t.Fatalf("seed %d, event %d, %v: %+v, %v, of one that does not track %+v, %v", seed, n, e, ran, errno, alone, aloneErrno)
			}
			if why > api.RanHalted {
				break
			}
		}
		ends[[]string{"out", "halted", "stopped", "full"}[why]]++
	}
	for _, end := range []string{"out", "stopped", "full"} {
		if ends[end] < 10 {
			t.Errorf("%s came about %d times", end, ends[end])
		}
	}
}

// varied is the same event; what comes has other values, if its source has a label.
func (c chance) varied(e event, r api.Rules, label uint32) event {
	if e.kind > sends || r.Sources[1+e.kind]&label == 0 {
		return e
	}
	e.bytes = bytes.Clone(e.bytes)
	for n := range e.bytes {
		e.bytes[n] ^= byte(c(256))
	}
	return e
}

// values are what stands in all places of a board that it tells of.
func values(b *board.Board) map[api.Place]uint32 {
	s, mode := b.State(), uint32(0)
	for n, is := range []bool{s.Super, s.Prev, s.Enabled} {
		if is {
			mode |= 1 << n
		}
	}
	all := map[api.Place]uint32{
		alone(api.PlacePc): s.Pc, alone(api.PlaceEpc): s.Epc, alone(api.PlaceCause): s.Cause, alone(api.PlaceVec): s.Vec,
		alone(api.PlaceTable): s.Table, alone(api.PlaceMode): mode,
	}
	for n, value := range s.Regs {
		all[reg(n)] = value
	}
	for kind, list := range map[api.PlaceKind][]byte{
		api.PlaceMem: b.Memory(), api.PlaceSector: b.Disk(), api.PlaceOut: b.Told(), api.PlaceSent: bytes.Join(b.Sent(), nil),
	} {
		for n, value := range list {
			all[place(kind, n)] = uint32(value)
		}
	}
	return all
}

// parted tells whether two towers have unlike values in a place; it fails where that place's set has not the label.
func parted(t *testing.T, x, y *Tower, label uint32) bool {
	t.Helper()
	found := false
	f, a, b := x.Flow(), x.Board(), y.Board()
	one, other := values(a), values(b)
	for p, value := range one {
		if set, _ := f.Get(p); value != other[p] && set&label == 0 {
			t.Fatalf("%v has %d, %d, and the set %d", p, value, other[p], set)
		}
		found = found || value != other[p]
	}
	if len(one) != len(other) || a.Now() != b.Now() || a.Halted() != b.Halted() || len(a.Sent()) != len(b.Sent()) {
		t.Fatal("they are not as far, or one is halted, has told or sent more")
	}
	for n, packet := range a.Sent() {
		if len(packet) != len(b.Sent()[n]) {
			t.Fatalf("the packet %d has another length", n)
		}
	}
	return found
}

// TestNothingComesThrough: two that are alike but for the values of bytes that come with a strict label do the same runs, have the same sets, and the same wherever the label is not.
func TestNothingComesThrough(t *testing.T) { // P15.4 (P0.2)
	seen := tally{}
	for seed := range uint32(300) {
		c := steady(seed)
		s := c.anySetup()
		label := uint32(1) << c(4)
		s.Track, s.Most, s.Rules.Strict = true, max(s.Most, 3), s.Rules.Strict|label
		s.Rules.Sources[3] |= label // the most of what is done begins at the console
		x, y := made(t, s), made(t, s)
		todo := c.start(t, s)
		for range 30 {
			todo = append(todo, c.event(s.Form))
		}
		for n, e := range todo {
			if e.kind == forbids {
				e.set |= label
			}
			other := c.varied(e, x.Setup().Rules, label)
			ran, errno := e.does(x)
			ranOther, errnoOther := other.does(y)
			if errno != errnoOther || !like(ran, ranOther) {
				t.Fatalf("seed %d, event %d, %v: %+v, %v, of the other one %+v, %v", seed, n, e, ran, errno, ranOther, errnoOther)
			}
			if !flow.Same(x.Flow(), y.Flow()) || x.Setup() != y.Setup() {
				t.Fatalf("seed %d, event %d, %v: the sets are not alike", seed, n, e)
			}
			if parted(t, x, y, label) {
				seen["parted"]++
			}
			seen[[]string{"out", "halted", "stopped", "full"}[ran.Why]]++
		}
		a, b := stands(x), stands(y)
		a.board, b.board = nil, nil
		if what := a.differs(b); what != "" {
			t.Fatalf("seed %d: not alike is %s", seed, what)
		}
	}
	for _, what := range []string{"parted", "out", "stopped", "full"} {
		if seen[what] < 20 {
			t.Errorf("%s came about %d times", what, seen[what])
		}
	}
}

// TestTwoThatStop: both stop at the same step, whatever was typed; memory is alike wherever the label is not.
func TestTwoThatStop(t *testing.T) { // P15.4 (P0.2)
	var first *Tower
	for typed := range 256 {
		x := made(t, tracking(4, api.Rules{Sources: [5]uint32{0, 0, 0, 1}, Strict: 1}), "in r1, 0", "sb r1, r0, 100", "mul r1, r1", "sw r1, r0, 104", "out r1, 1", "sw r2, r0, 108", "bne r1, r2, 1", "out r2, 1", "halt")
		comes(t, x.Type([]byte{byte(typed)}))
		goes(t, x, 99, 6, api.RanStopped)
		if first == nil {
			first = x
		}
		parted(t, first, x, 1)
		if got := x.Board(); got.Memory()[100] != byte(typed) || got.Told()[0] != byte(typed*typed) {
			t.Errorf("of %d memory has %d, told is %d", typed, got.Memory()[100], got.Told())
		}
	}
}
