package tower

import (
	"maps"
	"math"
	"slices"
	"testing"

	"pomander/api"
	"pomander/board"
)

// both are a setup that tracks and one that does not.
func both() map[string]api.Setup {
	return map[string]api.Setup{"tracks": tracking(9, sources(0, 0, 1)), "does not": {Form: form(2, 2)}}
}

func TestExample(t *testing.T) { // P15.1
	x := made(t, tracking(4, sources(0, 0, 1)), "in r1, 0", "out r1, 1", "halt")
	comes(t, x.Type([]byte("a")))
	runs(t, x, 9, api.Ran{Steps: 3, Why: api.RanHalted, Kind: api.StepRan, Pc: 8, Word: word(t, "halt")})
	if got := x.Board().Told(); string(got) != "a" {
		t.Errorf("told is %q", got)
	}
	haveAlone(t, x, map[api.Place]uint32{typed(0): 1, reg(1): 1, told(0): 1})

	x = made(t, tracking(4, sources(0, 0, 1)), "in r1, 0", "beq r1, r2, 1")
	comes(t, x.Type([]byte("a")))
	comes(t, x.Strict(1))
	runs(t, x, 9, api.Ran{Steps: 1, Why: api.RanStopped, Kind: api.StepRan, Word: word(t, "in r1, 0")})
}

// TestRunOfSoMany: memory of noughts traps at each step.
func TestRunOfSoMany(t *testing.T) { // P15.1
	for name, s := range both() {
		x, now := made(t, s), int64(0)
		for _, n := range []int{0, 1, 2, highest, 0, 1} {
			wanted := api.Ran{Steps: n, Kind: api.StepTrap, Cause: 1}
			if n == 0 {
				wanted = api.Ran{}
			}
			runs(t, x, n, wanted)
			now += int64(n)
			if got := x.Board().Now(); got != now {
				t.Errorf("%s: %d steps are done, not %d", name, got, now)
			}
			if got := x.History().Len(); s.Track && got != 4*int(now) {
				t.Errorf("%s: %d notes, not four a step", name, got)
			}
		}
	}
}

func TestRunRefuses(t *testing.T) { // P15.1
	for name, x := range someTowers(t) {
		for _, n := range []int{-1, highest + 1, -highest, 2 * highest, 1 << 32, 1<<32 + 1, math.MinInt, math.MaxInt} {
			refused(t, name, x, api.ErrArg, calls(x)["Run of less"])
			refused(t, name, x, api.ErrArg, func() api.Errno {
				if ran, errno := x.Run(n); errno == api.OK || !like(ran, api.Ran{}) {
					t.Errorf("%s: Run(%d) is %v, %v", name, n, ran, errno)
				}
				_, errno := x.Run(n)
				return errno
			})
		}
	}
}

// TestHalted: the step that halts is done; a run that ends just behind it has done all its steps.
func TestHalted(t *testing.T) { // P15.1
	for name, s := range both() {
		halt := api.Ran{Steps: 2, Kind: api.StepRan, Pc: 4, Word: word(t, "halt")}
		x := made(t, s, "addi r1, r1, 7", "halt")
		y := x.Copy()
		runs(t, x, 2, halt)
		halt.Why = api.RanHalted
		runs(t, y, highest, halt)
		stands(x).stays(t, name, y)
		for _, n := range []int{1, 2, highest} {
			runs(t, x, n, api.Ran{Why: api.RanHalted})
		}
		runs(t, x, 0, api.Ran{})
		stands(x).stays(t, name, y)
		comes(t, x.Type([]byte("a"))) // what comes does not wake it
		runs(t, x, 1, api.Ran{Why: api.RanHalted})
		if b := x.Board(); !b.Halted() || b.Now() != 2 || b.State().Regs[1] != 7 || b.State().Pc != 8 {
			t.Errorf("%s: it stands at %v, behind %d steps", name, b.State(), b.Now())
		}
	}
}

// TestLastStep: a run tells of the last step that was done, whatever it was.
func TestLastStep(t *testing.T) { // P15.1
	for _, s := range both() {
		x := made(t, s, "addi r1, r0, 2", "out r1, 4", "addi r1, r0, 4", "set r1, 4", "addi r2, r0, 1")
		comes(t, x.Type([]byte("a")))
		runs(t, x, 4, api.Ran{Steps: 4, Kind: api.StepRan, Pc: 12, Word: word(t, "set r1, 4")})
		runs(t, x, 1, api.Ran{Steps: 1, Kind: api.StepInt, Pc: 16, Cause: 17}) // to 0, where traps go
		runs(t, x, 5, api.Ran{Steps: 5, Kind: api.StepInt, Pc: 16, Cause: 17})
		comes(t, x.Load(0, code(t, "in r1, 0", "call", "halt")))
		runs(t, x, 2, api.Ran{Steps: 2, Kind: api.StepTrap, Pc: 4, Word: word(t, "call"), Cause: 8})
		comes(t, x.Load(4, code(t, "halt")))
		runs(t, x, 9, api.Ran{Steps: 2, Why: api.RanHalted, Kind: api.StepRan, Pc: 4, Word: word(t, "halt")})
	}
}

// stays fails where a tower at which a run ended does not stay there, run by run.
func stays(t *testing.T, x *Tower, why api.RanWhy) {
	t.Helper()
	before := stands(x)
	for _, n := range []int{1, 2, highest} {
		runs(t, x, n, api.Ran{Why: why})
		before.stays(t, "behind a run that ended", x)
	}
	runs(t, x, 0, api.Ran{})
	before.stays(t, "behind a run of no steps", x)
}

// TestStopped: nothing of a step that is stopped is done; the next run tries it again, and goes on if less is strict.
func TestStopped(t *testing.T) { // P15.1
	for _, n := range []int{1, 2, 3, highest} { // ended at the first, in the midst
		x := made(t, tracking(9, sources(0, 0, 1)), "in r1, 0", "out r1, 1", "sb r1, r1, 0", "halt")
		comes(t, x.Type([]byte{100}))
		comes(t, x.Strict(1))
		other := x.Copy()
		goes(t, other, min(n, 2), min(n, 2), api.RanOut)
		if n > 2 {
			runs(t, x, n, api.Ran{Steps: 2, Why: api.RanStopped, Kind: api.StepRan, Pc: 4, Word: word(t, "out r1, 1")})
			stays(t, x, api.RanStopped)
		} else {
			goes(t, x, n, n, api.RanOut)
		}
		stands(x).stays(t, "one that ran no further", other)
		comes(t, x.Strict(highestSet-1))
		runs(t, x, 9, api.Ran{Steps: 4 - min(n, 2), Why: api.RanHalted, Kind: api.StepRan, Pc: 12, Word: word(t, "halt")})
		has(t, x, mem(100), 1)
	}
}

// TestStoppedAtFirst: of no step done nothing is told but why.
func TestStoppedAtFirst(t *testing.T) { // P15.1
	x := made(t, tracking(9, api.Rules{Sources: [5]uint32{0, 2}, Strict: 6}), "halt")
	stays(t, x, api.RanStopped)
	comes(t, x.Strict(0))
	goes(t, x, 9, 1, api.RanHalted)
}

// TestFull: nothing of a step is done whose sets can't be kept; the next run tries it again.
func TestFull(t *testing.T) { // P15.1 (P0.4)
	x := made(t, tracking(3, sources(0, 0, 1)), "in r1, 0", "in r2, 0", "addi r3, r1, 0", "or r1, r2", "halt")
	comes(t, x.Type([]byte("a")))
	comes(t, x.Source(api.SourceConsole, 2))
	comes(t, x.Type([]byte("b")))
	y := x.Copy()
	runs(t, x, highest, api.Ran{Steps: 3, Why: api.RanFull, Kind: api.StepRan, Pc: 8, Word: word(t, "addi r3, r1, 0")})
	goes(t, y, 3, 3, api.RanOut)
	stands(x).stays(t, "one that ran no further", y)
	stays(t, x, api.RanFull)
	keeps(t, x, 0, 1, 2)
	haveAlone(t, x, map[api.Place]uint32{typed(0): 1, typed(1): 2, reg(1): 1, reg(2): 2, reg(3): 1})
	comes(t, x.Load(12, code(t, "or r1, r3"))) // what may be kept, or is empty, goes on
	goes(t, x, 9, 2, api.RanHalted)
}

// TestLeastBound: of a bound of 1 just what has no set is done.
func TestLeastBound(t *testing.T) { // P15.1 (P0.4)
	x := made(t, tracking(1, api.Rules{}), "in r1, 0", "add r1, r1", "out r1, 1", "halt")
	comes(t, x.Type([]byte("a")))
	goes(t, x, 9, 4, api.RanHalted)
	keeps(t, x, 0)
	haveAlone(t, x, nil)
}

// lower is a program that goes to the lower privilege, where an instruction at 32 is done; its page's word lies at 96. Table has the set of the first byte that is typed, r3 that of the second, r4 and Vec that of the third.
func lower(t *testing.T, most int, r api.Rules, instruction string) *Tower {
	t.Helper()
	x := made(t, tracking(most, r), "in r1, 0", "set r1, 3", "in r3, 0", "in r4, 0", "set r4, 2", "addi r2, r0, 32", "set r2, 0", "back", instruction)
	for n, one := range []byte{96, 5, 64} {
		comes(t, x.Source(api.SourceConsole, 1<<(2*n)))
		comes(t, x.Type([]byte{one}))
	}
	comes(t, x.Source(api.SourceImage, 2))
	comes(t, x.Load(96, []byte{1, 0, 0, 0}))
	goes(t, x, 8, 8, api.RanOut)
	return x
}

// TestFullOnTheWay: what a step keeps ahead of the set that can't be kept stays kept, and nothing has it.
func TestFullOnTheWay(t *testing.T) { // P15.1 (P0.4)
	x := lower(t, 6, api.Rules{}, "add r3, r4")
	kept := []uint32{0, 1, 4, 16, 2}
	keeps(t, x, kept...)
	b, sets, notes := x.Board(), maps.Collect(x.Flow().All()), x.History().Len()
	for range 3 {
		runs(t, x, 9, api.Ran{Why: api.RanFull})
		keeps(t, x, append(kept, 3)...) // the TLB's entry would have it
		haveAlone(t, x, sets)
		if !board.Same(x.Board(), b) || x.History().Len() != notes {
			t.Errorf("the board has changed, or something is noted")
		}
	}
	y := lower(t, 7, api.Rules{}, "add r3, r4")
	goes(t, y, 1, 1, api.RanOut)
	keeps(t, y, append(kept, 3, 20)...)
	has(t, y, reg(3), 20)
	has(t, y, tlb(0), 3)
}

// TestStoppedAheadOfFull: a step that is stopped whose sets would be full, too, is stopped, and keeps nothing.
func TestStoppedAheadOfFull(t *testing.T) { // P15.1
	for _, strict := range []uint32{1, 2, 3, highestSet} { // Table decides, and its page's word
		x := lower(t, 5, api.Rules{}, "add r3, r4")
		comes(t, x.Strict(strict))
		stays(t, x, api.RanStopped)
		keeps(t, x, 0, 1, 4, 16, 2)
		comes(t, x.Strict(highestSet-3))
		runs(t, x, 9, api.Ran{Why: api.RanFull})
	}
}

// TestAlerts: those of all steps, in order, each by what its place got.
func TestAlerts(t *testing.T) { // P15.1
	x := made(t, tracking(9, api.Rules{Sinks: [5]uint32{0, 6}}), "in r1, 0", "in r2, 0", "in r3, 0", "out r3, 1", "out r1, 1", "out r2, 1", "add r1, r3", "out r1, 1", "out r0, 1", "halt")
	for n, one := range []byte("abc") {
		comes(t, x.Source(api.SourceConsole, 1<<n))
		comes(t, x.Type([]byte{one}))
	}
	alerts := []api.Alert{{Place: told(0), Set: 4}, {Place: told(2), Set: 2}, {Place: told(3), Set: 4}}
	y := x.Copy()
	ran := goes(t, x, 99, 10, api.RanHalted)
	if !slices.Equal(ran.Alerts, alerts) {
		t.Errorf("the alerts are %v", ran.Alerts)
	}
	clear(ran.Alerts)
	for n, wanted := range map[int]int{0: 0, 3: 0, 4: 1, 5: 1, 6: 2, 8: 3, 9: 3} {
		z := y.Copy()
		first, rest := goes(t, z, n, n, api.RanOut), goes(t, z, 99, 10-n, api.RanHalted)
		if !slices.Equal(first.Alerts, alerts[:wanted]) || !slices.Equal(rest.Alerts, alerts[wanted:]) {
			t.Errorf("of %d steps the alerts are %v, then %v", n, first.Alerts, rest.Alerts)
		}
	}
	y.Sink(api.SinkConsole, 0)
	if ran := goes(t, y, 99, 10, api.RanHalted); len(ran.Alerts) != 0 {
		t.Errorf("of no sink the alerts are %v", ran.Alerts)
	}
	other, _ := New(api.Setup{Form: form(2, 2), Rules: fullRules()})
	comes(t, other.Load(0, code(t, "in r1, 0", "out r1, 1", "halt")))
	comes(t, other.Type([]byte("a")))
	if ran := goes(t, other, 99, 3, api.RanHalted); len(ran.Alerts) != 0 {
		t.Errorf("of one that does not track the alerts are %v", ran.Alerts)
	}
}

// TestAlertsOfSetsAhead: what a place gets is told by the sets ahead of the step, also where the step changes those that it came from.
func TestAlertsOfSetsAhead(t *testing.T) { // P15.1
	x := made(t, tracking(9, api.Rules{Sources: [5]uint32{0, 0, 0, 6}, Sinks: [5]uint32{4: 4}}), "in r1, 0", "jalr r1, r1", "jalr r1, r1")
	comes(t, x.Type([]byte{8}))
	pc, leap := alone(api.PlacePc), word(t, "jalr r1, r1")
	runs(t, x, 2, api.Ran{Steps: 2, Kind: api.StepRan, Pc: 4, Word: leap, Alerts: []api.Alert{{Place: pc, Set: 4}}})
	has(t, x, reg(1), 0) // the pc's, as it was
	has(t, x, pc, 6)
	runs(t, x, 1, api.Ran{Steps: 1, Kind: api.StepRan, Pc: 8, Word: leap}) // the pc gets what r1 had: nothing
	has(t, x, reg(1), 6)
	has(t, x, pc, 0)
}

// TestRulesChangeBetweenRuns: a run is told by the rules that there are then.
func TestRulesChangeBetweenRuns(t *testing.T) { // P15.1
	x := made(t, tracking(9, sources(0, 0, 3)), "in r1, 0", "out r1, 1", "out r1, 1", "out r1, 1", "out r1, 1", "bne r1, r0, -4", "halt")
	comes(t, x.Type([]byte("a")))
	comes(t, x.Strict(8))
	goes(t, x, 1, 1, api.RanOut)
	for n, set := range []uint32{1, 2, 0, 11} {
		comes(t, x.Sink(api.SinkConsole, set))
		var alerts []api.Alert
		if set&3 != 0 {
			alerts = []api.Alert{{Place: told(n), Set: set & 3}}
		}
		runs(t, x, 1, api.Ran{Steps: 1, Kind: api.StepRan, Pc: uint32(4 * (n + 1)), Word: word(t, "out r1, 1"), Alerts: alerts})
	}
	for _, strict := range []uint32{1, 2, 3} {
		comes(t, x.Strict(strict))
		stays(t, x, api.RanStopped)
	}
	comes(t, x.Strict(4))
	goes(t, x, 2, 2, api.RanOut) // the branch, and a byte that is told again
	comes(t, x.Source(api.SourceImage, 4))
	comes(t, x.Load(8, code(t, "halt")))
	stays(t, x, api.RanStopped)
	comes(t, x.Strict(0))
	goes(t, x, 9, 1, api.RanHalted)
}

// TestNoAlertOfWhatIsNotDone: a step that is stopped, or whose sets are full, has no alerts.
func TestNoAlertOfWhatIsNotDone(t *testing.T) { // P15.1
	pc := alone(api.PlacePc)
	rules := api.Rules{Sinks: [5]uint32{0, 0, 0, 0, 16}}
	x := lower(t, 6, rules, "halt") // a trap, to where Vec says
	runs(t, x, 1, api.Ran{Steps: 1, Kind: api.StepTrap, Pc: 32, Word: word(t, "halt"), Cause: 2, Alerts: []api.Alert{{Place: pc, Set: 16}}})
	has(t, x, pc, 16)
	x = lower(t, 5, rules, "halt") // the TLB's entry can't have its set
	runs(t, x, 9, api.Ran{Why: api.RanFull})
	x = lower(t, 6, rules, "halt")
	comes(t, x.Strict(16))
	runs(t, x, 9, api.Ran{Why: api.RanStopped})
	keeps(t, x, 0, 1, 4, 16, 2)
}

// TestNoted: what steps touch is noted at the time ahead of them, from the first on, through several runs.
func TestNoted(t *testing.T) { // P15.1
	x := made(t, tracking(9, sources(0, 0, 1)), "in r1, 0", "sb r1, r0, 100", "lb r2, r0, 100", "out r2, 1", "beq r1, r3, 1", "sb r0, r1, 0", "halt")
	comes(t, x.Type([]byte{77}))
	goes(t, x, 0, 0, api.RanOut)
	goes(t, x, 1, 1, api.RanOut)
	goes(t, x, 2, 2, api.RanOut)
	comes(t, x.Load(120, []byte("a"))) // what comes is not noted
	comes(t, x.Strict(1))
	goes(t, x, 9, 1, api.RanStopped)
	comes(t, x.Strict(0))
	goes(t, x, 9, 3, api.RanHalted)
	h, pc := x.History(), alone(api.PlacePc)
	wanted := map[api.Place][]api.Note{
		reg(1):   {{Step: 0, Place: reg(1), From: []api.Place{typed(0)}}},
		mem(100): {{Step: 1, Place: mem(100), From: []api.Place{reg(1)}}},
		reg(2):   {{Step: 2, Place: reg(2), From: []api.Place{mem(100)}}},
		told(0):  {{Step: 3, Place: told(0), From: []api.Place{reg(2)}}},
		mem(77):  {{Step: 5, Place: mem(77), From: []api.Place{reg(0)}}},
		mem(120): nil, typed(0): nil, {}: nil,
	}
	for step := range int64(7) {
		wanted[pc] = append(wanted[pc], api.Note{Step: step, Place: pc, From: []api.Place{pc}})
	}
	for p, notes := range wanted {
		if got := h.Notes(p); !slices.EqualFunc(got, notes, sameNote) {
			t.Errorf("the notes of %v are %v", p, got)
		}
	}
	if h.Len() != 12 {
		t.Errorf("%d notes", h.Len())
	}
	if got := h.Roots(told(0), 4); !slices.Equal(got, []api.Place{typed(0)}) {
		t.Errorf("what was told came from %v", got)
	}
}

// TestNoRoomForNotes: steps are done as ever where a history has as many notes as it may.
func TestNoRoomForNotes(t *testing.T) { // P15.1, P15.3
	program := []string{"addi r1, r0, 20", "out r1, 5", "in r2, 0", "out r2, 1", "jal r3, -4", "1", "64", "0"}
	x, y := made(t, tracking(9, sources(0, 0, 1)), program...), made(t, api.Setup{Form: form(2, 2)}, program...)
	for range 3 {
		for _, one := range []*Tower{x, y} {
			comes(t, one.Type([]byte("typed")))
			goes(t, one, highest, highest, api.RanOut)
		}
		if !board.Same(x.Board(), y.Board()) {
			t.Fatal("the boards are not the same")
		}
	}
	if got := x.History().Len(); got > 1<<20 || got < 1<<20-66 {
		t.Errorf("%d notes", got)
	}
	has(t, x, typed(14), 1)
	has(t, x, told(len(y.Board().Told())-1), 0)
}
