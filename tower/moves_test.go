package tower

import (
	"bytes"
	"slices"
	"testing"

	"pomander/api"
)

// pages fails where there are more or fewer pages of sets.
func pages(t *testing.T, x *Tower, memory, disk int) {
	t.Helper()
	if m, d := x.Flow().Pages(); m != memory || d != disk {
		t.Errorf("there are %d pages of memory's sets, %d of the disk's, not %d, %d", m, d, memory, disk)
	}
}

// row gives n places a set, from one on.
func row(sets map[api.Place]uint32, first api.Place, n int, set uint32) {
	for behind := range n {
		sets[place(first.Kind, first.N+behind)] = set
	}
}

// alertsOf are n alerts, from a place on.
func alertsOf(first api.Place, n int, set uint32) []api.Alert {
	var l []api.Alert
	for behind := range n {
		l = append(l, api.Alert{Place: place(first.Kind, first.N+behind), Set: set})
	}
	return l
}

// TestSetsDoNotHangOnValues: what is nothing by its value carries what it came from.
func TestSetsDoNotHangOnValues(t *testing.T) { // P15.1 (P0.1)
	x := made(t, tracking(4, sources(0, 0, 1)), "in r1, 0", "xor r1, r1", "halt")
	comes(t, x.Type([]byte("a")))
	goes(t, x, 9, 3, api.RanHalted)
	if got := x.Board().State().Regs[1]; got != 0 {
		t.Errorf("r1 is %d", got)
	}
	has(t, x, reg(1), 1)
}

// TestNotStrict: what is decided by a labelled byte carries nothing by that.
func TestNotStrict(t *testing.T) { // P15.1 (P0.1)
	x := made(t, tracking(4, sources(0, 0, 1)), "in r1, 0", "beq r1, r2, 2", "addi r3, r0, 7", "halt")
	comes(t, x.Type([]byte("a")))
	goes(t, x, 9, 4, api.RanHalted)
	haveAlone(t, x, map[api.Place]uint32{typed(0): 1, reg(1): 1})
}

// TestSectorToMemory: the disk's command carries the sets of all bytes of a sector; stores of what has none take them away.
func TestSectorToMemory(t *testing.T) { // P15.1 (P0.1, P0.4)
	x := made(t, tracking(4, sources(0, 4)), "addi r1, r0, 48", "out r1, 5", "sb r0, r2, 64", "addi r2, r2, 1", "slt r3, r2", "blt r2, r4, -3", "halt")
	comes(t, x.Load(48, code(t, "1", "64", "0")))
	comes(t, x.Write(1, bytes.Repeat([]byte("x"), 64)))
	comes(t, x.Sink(api.SinkDisk, highestSet))
	pages(t, x, 0, 1)
	goes(t, x, 2, 2, api.RanOut)
	sets := map[api.Place]uint32{}
	row(sets, sector(64), 64, 4)
	row(sets, mem(64), 64, 4)
	haveAlone(t, x, sets)
	pages(t, x, 1, 1)
	if got := x.Board().Memory()[64:]; !bytes.Equal(got, bytes.Repeat([]byte("x"), 64)) {
		t.Errorf("memory has %q", got)
	}
	for n := range 64 {
		comes(t, x.Load(8, code(t, "sb r0, r2, 64", "addi r2, r2, 1", "jal r3, -2")))
		goes(t, x, 3, 3, api.RanOut)
		has(t, x, mem(64+n), 0)
	}
	pages(t, x, 0, 1)
	goes(t, x, 1, 1, api.RanOut) // beyond memory: a trap
}

// TestMemoryToSector: the other way, with alerts of the disk's sink, byte by byte.
func TestMemoryToSector(t *testing.T) { // P15.1 (P0.1)
	x := made(t, tracking(9, sources(0, 4)), "addi r1, r0, 48", "out r1, 5", "halt")
	comes(t, x.Load(48, code(t, "1", "64", "1")))
	comes(t, x.Write(1, bytes.Repeat([]byte("x"), 64)))
	comes(t, x.Source(api.SourceImage, 3))
	comes(t, x.Load(64, bytes.Repeat([]byte("y"), 20)))
	comes(t, x.Source(api.SourceImage, 8))
	comes(t, x.Load(94, bytes.Repeat([]byte("z"), 2)))
	comes(t, x.Sink(api.SinkDisk, 2+8))
	wanted := append(alertsOf(sector(64), 20, 2), alertsOf(sector(94), 2, 8)...)
	if ran := goes(t, x, 9, 3, api.RanHalted); !slices.Equal(ran.Alerts, wanted) {
		t.Errorf("the alerts are %v", ran.Alerts)
	}
	sets := map[api.Place]uint32{}
	for _, at := range []api.Place{mem(64), sector(64)} {
		row(sets, at, 20, 3)
		row(sets, place(at.Kind, at.N+30), 2, 8)
	}
	haveAlone(t, x, sets)
}

// TestPackets: what comes by the net carries its set to memory, and from there to what is sent.
func TestPackets(t *testing.T) { // P15.1 (P0.1)
	x := made(t, tracking(9, sources(0, 0, 0, 1)), "addi r1, r0, 40", "out r1, 7", "addi r1, r0, 48", "out r1, 9", "in r2, 8", "halt")
	comes(t, x.Load(40, code(t, "100", "3", "98", "6")))
	comes(t, x.Send([]byte("ab")))
	comes(t, x.Source(api.SourceNet, 2))
	comes(t, x.Send([]byte("defgh")))
	comes(t, x.Sink(api.SinkNet, 3))
	y := x.Copy()
	if ran := goes(t, x, 9, 6, api.RanHalted); !slices.Equal(ran.Alerts, alertsOf(sent(2), 2, 1)) {
		t.Errorf("the alerts are %v", ran.Alerts)
	}
	sets := map[api.Place]uint32{}
	row(sets, packet(0), 2, 1)
	row(sets, packet(2), 5, 2)
	row(sets, mem(100), 2, 1)
	row(sets, sent(2), 2, 1)
	haveAlone(t, x, sets)
	comes(t, y.Load(4, code(t, "out r1, 7", "out r1, 7", "addi r1, r0, 48", "out r1, 9", "jal r7, -1"))) // three bytes of the second packet, and all again
	ran := goes(t, y, 7, 7, api.RanOut)
	row(sets, mem(100), 3, 2)
	delete(sets, sent(3))
	row(sets, sent(2), 3, 2)
	row(sets, sent(8), 3, 2)
	haveAlone(t, y, sets)
	if !slices.Equal(ran.Alerts, append(alertsOf(sent(2), 3, 2), alertsOf(sent(8), 3, 2)...)) {
		t.Errorf("the alerts are %v", ran.Alerts)
	}
}

// TestCommandsDecide: a command whose words have a strict label is stopped; where its place does, too.
func TestCommandsDecide(t *testing.T) { // P15.1
	for _, port := range []string{"5", "7", "9"} {
		x := made(t, tracking(9, sources(2)))
		comes(t, x.Load(48, code(t, "0", "64", "0")))
		comes(t, x.Source(api.SourceImage, 0))
		comes(t, x.Load(0, code(t, "addi r1, r0, 48", "out r1, "+port, "halt")))
		comes(t, x.Send([]byte("a")))
		comes(t, x.Strict(2))
		y := x.Copy()
		goes(t, x, 9, 1, api.RanStopped)
		stays(t, x, api.RanStopped)
		comes(t, y.Strict(highestSet-2))
		goes(t, y, 9, 3, api.RanHalted)

		z := made(t, tracking(9, api.Rules{Sources: [5]uint32{0, 0, 0, 2}, Strict: 2}), "in r1, 0", "out r1, "+port, "halt")
		comes(t, z.Type([]byte{48}))
		goes(t, z, 9, 1, api.RanStopped)
	}
	x := made(t, tracking(9, sources(2)))
	comes(t, x.Load(56, code(t, "0"))) // the command's third word: the net has none
	comes(t, x.Source(api.SourceImage, 0))
	comes(t, x.Load(0, code(t, "addi r1, r0, 48", "out r1, 7", "out r1, 9", "out r1, 5")))
	comes(t, x.Strict(2))
	goes(t, x, 9, 3, api.RanStopped)
}

// TestPageTableDecides: a page table's word decides the first access of the lower privilege to that page, the TLB's entry all behind it.
func TestPageTableDecides(t *testing.T) { // P15.1
	x := lower(t, 9, api.Rules{}, "addi r3, r0, 1")
	y := x.Copy()
	comes(t, y.Strict(2))
	runs(t, y, 9, api.Ran{Why: api.RanStopped})
	has(t, y, tlb(0), 0)
	goes(t, x, 1, 1, api.RanOut)
	has(t, x, tlb(0), 3)
	comes(t, x.Load(96, make([]byte, 4))) // no label stands in the table any more, but in the TLB
	comes(t, x.Strict(2))
	stays(t, x, api.RanStopped)
	comes(t, x.Strict(4))
	goes(t, x, 1, 1, api.RanOut)
}

// TestStateDecides: each part of the state gets a labelled byte, ahead of the label's being strict; then so many steps are done.
func TestStateDecides(t *testing.T) { // P15.1
	trap := []string{"addi r3, r0, 1", "addi r3, r3, 1", "call"}
	for name, row := range map[string]struct {
		gets   string
		typed  byte
		at     api.Place
		behind []string
		steps  int
		why    api.RanWhy
	}{
		"mask":      {"out r1, 4", 1, alone(api.PlaceMask), trap, 0, api.RanStopped},
		"alarm":     {"out r1, 3", 99, alone(api.PlaceAlarm), trap, 0, api.RanStopped},
		"mode":      {"set r1, 4", 2, alone(api.PlaceMode), trap, 0, api.RanStopped},
		"pc":        {"jalr r2, r1", 8, alone(api.PlacePc), trap, 0, api.RanStopped},
		"vector":    {"set r1, 2", 40, alone(api.PlaceVec), trap, 2, api.RanStopped},
		"epc":       {"set r1, 0", 40, alone(api.PlaceEpc), []string{"back"}, 1, api.RanStopped}, // the pc has its set then
		"epc again": {"set r1, 0", 40, alone(api.PlaceEpc), trap, 9, api.RanOut},
		"cause":     {"set r1, 1", 40, alone(api.PlaceCause), trap, 9, api.RanOut},
		"table":     {"set r1, 3", 40, alone(api.PlaceTable), trap, 9, api.RanOut},
	} {
		x := made(t, tracking(9, sources(0, 0, 1)), append([]string{"in r1, 0", row.gets}, row.behind...)...)
		comes(t, x.Type([]byte{row.typed}))
		goes(t, x, 2, 2, api.RanOut)
		has(t, x, row.at, 1)
		comes(t, x.Load(0, code(t, "jal r7, 0"))) // where traps go
		comes(t, x.Strict(1))
		if ran, errno := x.Run(9); errno != api.OK || ran.Steps != row.steps || ran.Why != row.why {
			t.Errorf("%s: the run is %v, %v", name, ran, errno)
		}
	}
}

// TestInterruptsDecide: where an interrupt goes is decided by the vector; the pc has its set then, which is an alert.
func TestInterruptsDecide(t *testing.T) { // P15.1
	x := made(t, tracking(9, api.Rules{Sources: [5]uint32{0, 0, 0, 1}, Sinks: [5]uint32{4: 5}}),
		"in r1, 0", "set r1, 2", "addi r2, r0, 2", "out r2, 4", "addi r2, r0, 4", "set r2, 4", "jal r7, 0")
	comes(t, x.Type([]byte{60}))
	goes(t, x, 7, 7, api.RanOut)
	comes(t, x.Source(api.SourceConsole, 0))
	y := x.Copy()
	comes(t, x.Type([]byte("b"))) // its line is in the mask, and wants
	z := x.Copy()
	pc := alone(api.PlacePc)
	runs(t, x, 1, api.Ran{Steps: 1, Kind: api.StepInt, Pc: 24, Cause: 17, Alerts: []api.Alert{{Place: pc, Set: 1}}})
	has(t, x, pc, 1)
	has(t, x, alone(api.PlaceEpc), 0)
	comes(t, x.Strict(1))
	stays(t, x, api.RanStopped) // by the pc
	comes(t, y.Strict(1))
	goes(t, y, 9, 9, api.RanOut)
	comes(t, z.Strict(1))
	runs(t, z, 9, api.Ran{Why: api.RanStopped})
}

// TestTrapsDecide: an address with a strict label stops loads, stores and leaps, whether they trap or not; a value that is loaded or stored does not.
func TestTrapsDecide(t *testing.T) { // P15.1
	for line, wanted := range map[string]int{
		"lw r2, r1, 0": 1, "lb r2, r1, 0": 1, "sw r2, r1, 0": 1, "sb r2, r1, 0": 1, "jalr r2, r1": 1, "beq r1, r2, 1": 1, "bne r2, r1, 1": 1, "blt r1, r2, 1": 1,
		"out r1, 3": 1, "out r1, 4": 1, "out r1, 5": 1, "out r1, 2": 1, "out r1, 1": 2, "sw r1, r2, 64": 2, "sb r1, r2, 64": 2, "add r1, r1": 2, "addi r2, r1, 1": 2, "shl r1, r1": 2, "set r1, 2": 2,
	} {
		for _, address := range []byte{64, 65, 200} { // there, no multiple of 4, beyond memory
			x := made(t, tracking(9, api.Rules{Sources: [5]uint32{0, 0, 0, 1}, Strict: 1}), "in r1, 0", line)
			comes(t, x.Type([]byte{address}))
			ran, errno := x.Run(2)
			if errno != api.OK || ran.Steps != wanted || ran.Why != api.RanWhy(2*(2-wanted)) {
				t.Errorf("%s of %d: %v, %v", line, address, ran, errno)
			}
			comes(t, x.Strict(2))
			if y := x.Copy(); wanted == 1 {
				goes(t, y, 1, 1, api.RanOut)
			}
		}
	}
}
