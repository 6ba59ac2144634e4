package cpu

import (
	"slices"
	"strconv"
	"strings"
	"testing"

	"pomander/api"
	"pomander/isa"
)

// inst makes an instruction of its parts.
func inst(op api.Op, a, b, imm int) api.Inst { return api.Inst{Op: op, A: a, B: b, Imm: imm} }

// encoded is an instruction's word.
func encoded(t *testing.T, i api.Inst) uint32 {
	t.Helper()
	w, errno := isa.Encode(i)
	if errno != api.OK {
		t.Fatalf("%v is no instruction", i)
	}
	return w
}

// usual is a state all of whose parts are told from each other; its registers are 256 more than 16 times their number.
func usual() api.State {
	s := api.State{Pc: 400, Epc: 41, Cause: 42, Vec: 43, Table: 44, Super: true}
	for n := range s.Regs {
		s.Regs[n] = uint32(256 + 16*n)
	}
	return s
}

// with is the usual state with other values in r1 and r2.
func with(r1, r2 uint32) api.State {
	s := usual()
	s.Regs[1], s.Regs[2] = r1, r2
	return s
}

// lower is a state of the lower privilege.
func lower(s api.State) api.State {
	s.Super = false
	return s
}

// steady tells numbers that hang on the seed alone.
func steady(seed uint32) func(below uint32) uint32 {
	return func(below uint32) uint32 {
		seed = seed*1664525 + 1013904223
		return uint32(uint64(seed) * uint64(below) >> 32)
	}
}

// privileged are the Ops that the lower privilege may not do.
func privileged() []api.Op {
	return []api.Op{api.OpHalt, api.OpIn, api.OpOut, api.OpBack, api.OpGet, api.OpSet, api.OpFlush}
}

// P10.1: the chapter's examples.
func TestExamples(t *testing.T) {
	s := with(0, 5)
	s.Pc = 0
	addi := encoded(t, inst(api.OpAddi, 1, 2, -6))
	if o := Done(s, addi, 0); Plan(s, addi) != (api.Want{}) || o.Regs[1] != 4294967295 || o.Pc != 4 {
		t.Errorf("addi: %v %v", Plan(s, addi), o)
	}
	s.Regs[2] = 3
	lw := encoded(t, inst(api.OpLw, 1, 2, 0))
	if want := (api.Want{Kind: api.WantTrap, Cause: 6}); Plan(s, lw) != want || Done(s, lw, 0) != Trap(s, 6) || Done(s, lw, 0).Pc != s.Vec {
		t.Errorf("lw: %v %v", Plan(s, lw), Done(s, lw, 0))
	}
	if want := (api.Want{Kind: api.WantTrap, Cause: 2}); Plan(lower(s), encoded(t, inst(api.OpHalt, 0, 0, 0))) != want {
		t.Error("halt of the lower privilege does not trap so")
	}
}

// P10.1: each Op, what it wants in the higher privilege.
func TestPlan(t *testing.T) {
	s := with(0x12345678, 256)
	for _, row := range []struct {
		inst api.Inst
		want api.Want
	}{
		{inst(api.OpHalt, 0, 0, 0), api.Want{Kind: api.WantHalt}},
		{inst(api.OpLui, 1, 0, 5), api.Want{}},
		{inst(api.OpAddi, 1, 2, 5), api.Want{}},
		{inst(api.OpAdd, 1, 2, 0), api.Want{}},
		{inst(api.OpSub, 1, 2, 0), api.Want{}},
		{inst(api.OpMul, 1, 2, 0), api.Want{}},
		{inst(api.OpAnd, 1, 2, 0), api.Want{}},
		{inst(api.OpOr, 1, 2, 0), api.Want{}},
		{inst(api.OpXor, 1, 2, 0), api.Want{}},
		{inst(api.OpShl, 1, 2, 0), api.Want{}},
		{inst(api.OpShr, 1, 2, 0), api.Want{}},
		{inst(api.OpSlt, 1, 2, 0), api.Want{}},
		{inst(api.OpLw, 1, 2, 8), api.Want{Kind: api.WantLoad, Addr: 264, Width: 4}},
		{inst(api.OpLw, 1, 2, -260), api.Want{Kind: api.WantLoad, Addr: 4294967292, Width: 4}},
		{inst(api.OpSw, 1, 2, -4), api.Want{Kind: api.WantStore, Addr: 252, Width: 4, Value: 0x12345678}},
		{inst(api.OpLb, 1, 2, 3), api.Want{Kind: api.WantLoad, Addr: 259, Width: 1}},
		{inst(api.OpSb, 1, 2, -1), api.Want{Kind: api.WantStore, Addr: 255, Width: 1, Value: 0x78}},
		{inst(api.OpBeq, 1, 2, 5), api.Want{}},
		{inst(api.OpBne, 1, 2, 5), api.Want{}},
		{inst(api.OpBlt, 1, 2, 5), api.Want{}},
		{inst(api.OpJal, 1, 0, 5), api.Want{}},
		{inst(api.OpJalr, 1, 2, 0), api.Want{}},
		{inst(api.OpIn, 1, 0, 9), api.Want{Kind: api.WantIn, Port: 9}},
		{inst(api.OpIn, 1, 0, -9), api.Want{Kind: api.WantIn, Port: -9}},
		{inst(api.OpOut, 1, 0, 1), api.Want{Kind: api.WantOut, Port: 1, Value: 0x12345678}},
		{inst(api.OpOut, 1, 0, -32768), api.Want{Kind: api.WantOut, Port: -32768, Value: 0x12345678}},
		{inst(api.OpCall, 0, 0, 0), api.Want{Kind: api.WantTrap, Cause: 8}},
		{inst(api.OpBack, 0, 0, 0), api.Want{}},
		{inst(api.OpGet, 1, 0, 0), api.Want{}},
		{inst(api.OpSet, 1, 0, 0), api.Want{}},
		{inst(api.OpFlush, 0, 0, 0), api.Want{Kind: api.WantFlush}},
	} {
		w := encoded(t, row.inst)
		if got := Plan(s, w); got != row.want {
			t.Errorf("%v wants %v, not %v", row.inst, got, row.want)
		}
		want := row.want
		if slices.Contains(privileged(), row.inst.Op) {
			want = api.Want{Kind: api.WantTrap, Cause: 2}
		}
		if got := Plan(lower(s), w); got != want {
			t.Errorf("%v wants of the lower privilege %v, not %v", row.inst, got, want)
		}
	}
}

// P10.1, P10.2: what traps, of which cause; its state and its touches are those of a trap.
func TestCauses(t *testing.T) {
	for _, row := range []struct {
		inst    api.Inst
		address uint32
		cause   uint32 // of the higher privilege; 0: none
		low     uint32 // of the lower one
	}{
		{inst(api.OpLw, 1, 2, 0), 1, 6, 6},
		{inst(api.OpLw, 1, 2, 1), 3, 0, 0},
		{inst(api.OpLw, 1, 2, 2), 4, 6, 6},
		{inst(api.OpLw, 1, 1, -1), 4, 6, 6},
		{inst(api.OpSw, 1, 2, 0), 2, 6, 6},
		{inst(api.OpSw, 1, 2, -2), 2, 0, 0},
		{inst(api.OpLb, 1, 2, 0), 3, 0, 0},
		{inst(api.OpSb, 1, 2, 0), 3, 0, 0},
		{inst(api.OpJalr, 1, 2, 0), 3, 6, 6},
		{inst(api.OpJalr, 1, 2, 0), 4294967292, 0, 0},
		{inst(api.OpCall, 0, 0, 0), 0, 8, 8},
		{inst(api.OpGet, 1, 0, -1), 0, 1, 2},
		{inst(api.OpGet, 1, 0, 0), 0, 0, 2},
		{inst(api.OpGet, 1, 0, 5), 0, 0, 2},
		{inst(api.OpGet, 1, 0, 6), 0, 1, 2},
		{inst(api.OpGet, 1, 0, 32767), 0, 1, 2},
		{inst(api.OpSet, 1, 0, -32768), 0, 1, 2},
		{inst(api.OpSet, 1, 0, -1), 0, 1, 2},
		{inst(api.OpSet, 1, 0, 0), 0, 0, 2},
		{inst(api.OpSet, 1, 0, 5), 0, 0, 2},
		{inst(api.OpSet, 1, 0, 6), 0, 1, 2},
		{inst(api.OpHalt, 0, 0, 0), 0, 0, 2},
		{inst(api.OpIn, 1, 0, 0), 0, 0, 2},
		{inst(api.OpOut, 1, 0, 1), 0, 0, 2},
		{inst(api.OpBack, 0, 0, 0), 0, 0, 2},
		{inst(api.OpFlush, 0, 0, 0), 0, 0, 2},
	} {
		s, w := with(row.address, row.address), encoded(t, row.inst)
		traps(t, s, w, row.cause, row.inst.B)
		traps(t, lower(s), w, row.low, row.inst.B)
	}
}

// P10.1, P10.2: words that are no instructions trap, in both privileges.
func TestNoInstruction(t *testing.T) {
	for _, w := range []uint32{0, 1, 0x18000001, 0x04810000, 0x04180000, 0x1d000000, 0x01000001, 0x1c100000, 0xff000000, 0xffffffff} {
		traps(t, usual(), w, 1, 0)
		traps(t, lower(usual()), w, 1, 0)
	}
}

// traps fails where a word does not trap of a cause (0: where it does); b is the register that decides, of the cause 6.
func traps(t *testing.T, s api.State, w, cause uint32, b int) {
	t.Helper()
	got := Plan(s, w)
	if cause == 0 {
		if got.Kind == api.WantTrap {
			t.Errorf("%#x traps: %v", w, got)
		}
		return
	}
	if want := (api.Want{Kind: api.WantTrap, Cause: cause}); got != want {
		t.Errorf("%#x wants %v, not %v", w, got, want)
	}
	if got := Done(s, w, 77); got != Trap(s, cause) {
		t.Errorf("behind %#x is %v", w, got)
	}
	touches := trapTouches
	if cause == 6 {
		touches = "?<r" + strconv.Itoa(b) + " " + touches
	}
	if got := text(Touches(s, w)); got != touches {
		t.Errorf("%#x touches %q, not %q", w, got, touches)
	}
}

// P10.1: what A is behind an instruction, told 0x89abcdef; nothing but A and the pc has changed.
func TestMade(t *testing.T) {
	for _, row := range []struct {
		inst api.Inst
		a, b uint32
		made uint32
	}{
		{inst: inst(api.OpLui, 1, 0, 5), made: 5 << 16},
		{inst: inst(api.OpLui, 1, 0, -1), made: 0xffff0000},
		{inst: inst(api.OpLui, 1, 0, -32768), made: 1 << 31},
		{inst: inst(api.OpAddi, 1, 2, 32767), b: 1, made: 32768},
		{inst: inst(api.OpAddi, 1, 2, -1), b: 0, made: 4294967295},
		{inst: inst(api.OpAddi, 1, 1, 1), a: 4294967295, b: 9, made: 0},
		{inst: inst(api.OpAdd, 1, 2, 0), a: 1 << 31, b: 1<<31 + 3, made: 3},
		{inst: inst(api.OpAdd, 1, 1, 0), a: 7, b: 100, made: 14},
		{inst: inst(api.OpSub, 1, 2, 0), a: 3, b: 5, made: 4294967294},
		{inst: inst(api.OpSub, 1, 1, 0), a: 3, b: 5, made: 0},
		{inst: inst(api.OpMul, 1, 2, 0), a: 65537, b: 65536, made: 65536},
		{inst: inst(api.OpAnd, 1, 2, 0), a: 12, b: 10, made: 8},
		{inst: inst(api.OpOr, 1, 2, 0), a: 12, b: 10, made: 14},
		{inst: inst(api.OpXor, 1, 2, 0), a: 12, b: 10, made: 6},
		{inst: inst(api.OpXor, 1, 1, 0), a: 12, b: 10, made: 0},
		{inst: inst(api.OpShl, 1, 2, 0), a: 3, b: 31, made: 1 << 31},
		{inst: inst(api.OpShl, 1, 2, 0), a: 3, b: 33, made: 6},
		{inst: inst(api.OpShl, 1, 2, 0), a: 3, b: 4294967264, made: 3},
		{inst: inst(api.OpShr, 1, 2, 0), a: 1 << 31, b: 31, made: 1},
		{inst: inst(api.OpShr, 1, 2, 0), a: 1 << 31, b: 32, made: 1 << 31},
		{inst: inst(api.OpShr, 1, 2, 0), a: 1 << 31, b: 4294967295, made: 1},
		{inst: inst(api.OpSlt, 1, 2, 0), a: 4294967295, b: 0, made: 1},
		{inst: inst(api.OpSlt, 1, 2, 0), a: 0, b: 4294967295, made: 0},
		{inst: inst(api.OpSlt, 1, 2, 0), a: 1 << 31, b: 1<<31 - 1, made: 1},
		{inst: inst(api.OpSlt, 1, 2, 0), a: 5, b: 5, made: 0},
		{inst: inst(api.OpSlt, 1, 1, 0), a: 5, b: 9, made: 0},
		{inst: inst(api.OpLw, 1, 2, 0), b: 4, made: 0x89abcdef},
		{inst: inst(api.OpLb, 1, 2, 0), b: 3, made: 0xef},
		{inst: inst(api.OpIn, 1, 0, 0), made: 0x89abcdef},
		{inst: inst(api.OpGet, 1, 0, 0), made: 41},
		{inst: inst(api.OpGet, 1, 0, 1), made: 42},
		{inst: inst(api.OpGet, 1, 0, 2), made: 43},
		{inst: inst(api.OpGet, 1, 0, 3), made: 44},
		{inst: inst(api.OpGet, 1, 0, 4), made: 1},
		{inst: inst(api.OpGet, 1, 0, 5), made: 400},
	} {
		s := with(row.a, row.b)
		want := s
		want.Pc, want.Regs[1] = 404, row.made
		if got := Done(s, encoded(t, row.inst), 0x89abcdef); got != want {
			t.Errorf("behind %v of %d and %d is %v, not %v", row.inst, row.a, row.b, got, want)
		}
	}
}

// P10.1: instructions that change nothing but the pc.
func TestNothingMade(t *testing.T) {
	for _, i := range []api.Inst{
		inst(api.OpHalt, 0, 0, 0), inst(api.OpFlush, 0, 0, 0), inst(api.OpSw, 1, 2, 0), inst(api.OpSb, 1, 2, 3),
		inst(api.OpOut, 1, 0, 1), inst(api.OpOut, 1, 0, 2), inst(api.OpSet, 1, 0, 5),
	} {
		s := with(6, 8)
		want := s
		want.Pc = 404
		if got := Done(s, encoded(t, i), 0x89abcdef); got != want {
			t.Errorf("behind %v is %v, not %v", i, got, want)
		}
	}
}

// P10.1: where branches and jumps lead; jumps tell A what would be next.
func TestMoved(t *testing.T) {
	for _, row := range []struct {
		inst  api.Inst
		a, b  uint32
		pc    uint32
		r1    uint32
		start uint32
	}{
		{inst(api.OpBeq, 1, 2, 5), 7, 7, 420, 7, 400},
		{inst(api.OpBeq, 1, 2, 5), 7, 8, 404, 7, 400},
		{inst(api.OpBeq, 1, 1, -5), 7, 8, 380, 7, 400},
		{inst(api.OpBeq, 1, 2, 0), 7, 7, 400, 7, 400},
		{inst(api.OpBne, 1, 2, -101), 7, 8, 4294967292, 7, 400},
		{inst(api.OpBne, 1, 2, 5), 7, 7, 404, 7, 400},
		{inst(api.OpBne, 1, 1, 5), 7, 8, 404, 7, 400},
		{inst(api.OpBlt, 1, 2, 5), 7, 8, 420, 7, 400},
		{inst(api.OpBlt, 1, 2, 5), 8, 7, 404, 8, 400},
		{inst(api.OpBlt, 1, 2, 5), 7, 7, 404, 7, 400},
		{inst(api.OpBlt, 1, 2, 5), 4294967295, 0, 420, 4294967295, 400},
		{inst(api.OpBlt, 1, 2, 5), 0, 4294967295, 404, 0, 400},
		{inst(api.OpBlt, 1, 2, 32767), 0, 1, 400 + 131068, 0, 400},
		{inst(api.OpJal, 1, 0, 5), 7, 8, 420, 404, 400},
		{inst(api.OpJal, 1, 0, -32768), 7, 8, 4294967296 - 131072 + 400, 404, 400},
		{inst(api.OpJal, 1, 0, 1), 7, 8, 0, 0, 4294967292},
		{inst(api.OpJalr, 1, 2, 0), 7, 8, 8, 404, 400},
		{inst(api.OpJalr, 1, 1, 0), 12, 8, 12, 404, 400},
		{inst(api.OpAdd, 1, 2, 0), 1, 2, 0, 3, 4294967292},
		{inst(api.OpAdd, 1, 2, 0), 1, 2, 7, 3, 3},
	} {
		s := with(row.a, row.b)
		s.Pc = row.start
		want := s
		want.Pc, want.Regs[1] = row.pc, row.r1
		if got := Done(s, encoded(t, row.inst), 99); got != want {
			t.Errorf("behind %v of %d and %d is %v, not %v", row.inst, row.a, row.b, got, want)
		}
	}
}

// P10.1: what set sets; who runs stays.
func TestSet(t *testing.T) {
	for imm, change := range []func(s *api.State){
		func(s *api.State) { s.Epc = 0xfffffff9 },
		func(s *api.State) { s.Cause = 0xfffffff9 },
		func(s *api.State) { s.Vec = 0xfffffff9 },
		func(s *api.State) { s.Table = 0xfffffff9 },
		func(s *api.State) { s.Prev, s.Enabled = false, false },
		func(s *api.State) {},
	} {
		s := with(0xfffffff9, 0)
		s.Prev, s.Enabled = true, true
		want := s
		change(&want)
		want.Pc = 404
		if got := Done(s, encoded(t, inst(api.OpSet, 1, 0, imm)), 99); got != want {
			t.Errorf("behind set of %d is %v, not %v", imm, got, want)
		}
	}
}

// P10.1: the status, by its parts; set of what get told changes none but who runs.
func TestStatus(t *testing.T) {
	for status := range uint32(8) {
		s := api.State{Super: status&1 != 0, Prev: status&2 != 0, Enabled: status&4 != 0, Cause: 99}
		if got := Status(s); got != status {
			t.Errorf("Status is %d, not %d", got, status)
		}
		s = with(status, 0)
		want := s
		want.Pc, want.Prev, want.Enabled = 404, status&2 != 0, status&4 != 0
		if got := Done(s, encoded(t, inst(api.OpSet, 1, 0, 4)), 0); got != want || Status(got) != status|1 {
			t.Errorf("behind set of %d is %v, not %v", status, got, want)
		}
	}
}

// P10.1, P10.3: a trap of each cause, of either privilege, and the way back.
func TestTrapAndBack(t *testing.T) {
	for status := range uint32(8) {
		for _, cause := range []uint32{0, 1, 2, 3, 4, 5, 6, 7, 8, 9, 4294967295} {
			s := usual()
			s.Super, s.Prev, s.Enabled = status&1 != 0, status&2 != 0, status&4 != 0
			want := api.State{Regs: s.Regs, Pc: 43, Epc: 400, Cause: cause, Vec: 43, Table: 44, Super: true, Prev: s.Super}
			trapped := Trap(s, cause)
			if trapped != want {
				t.Errorf("behind a trap of %d is %v, not %v", cause, trapped, want)
			}
			want.Super, want.Enabled, want.Pc = s.Super, true, 400
			if got := Done(trapped, encoded(t, inst(api.OpBack, 0, 0, 0)), 0); got != want {
				t.Errorf("back from it is %v, not %v", got, want)
			}
		}
	}
}

const trapTouches = "epc<pc cause< mode<mode ?<vec pc<vec"

// text tells touches, those that decide as what ? gets.
func text(touches []api.Touch) string {
	names := map[api.PlaceKind]string{
		api.PlaceNone: "?", api.PlacePc: "pc", api.PlaceEpc: "epc", api.PlaceCause: "cause",
		api.PlaceVec: "vec", api.PlaceTable: "table", api.PlaceMode: "mode",
	}
	place := func(p api.Place) string {
		if p.Kind == api.PlaceReg {
			return "r" + strconv.Itoa(p.N)
		}
		if name, is := names[p.Kind]; is && p.N == 0 {
			return name
		}
		return "a wrong place"
	}
	var told []string
	for _, touch := range touches {
		var from []string
		for _, p := range touch.From {
			from = append(from, place(p))
		}
		told = append(told, place(touch.To)+"<"+strings.Join(from, ","))
	}
	return strings.Join(told, " ")
}

// P10.2: each Op, what it touches.
func TestTouches(t *testing.T) {
	for _, row := range []struct {
		inst    api.Inst
		touches string
	}{
		{inst(api.OpHalt, 0, 0, 0), "pc<pc"},
		{inst(api.OpLui, 1, 0, 5), "r1< pc<pc"},
		{inst(api.OpAddi, 1, 2, 5), "r1<r2 pc<pc"},
		{inst(api.OpAddi, 0, 0, 5), "r0<r0 pc<pc"},
		{inst(api.OpAdd, 1, 2, 0), "r1<r1,r2 pc<pc"},
		{inst(api.OpAdd, 7, 7, 0), "r7<r7,r7 pc<pc"},
		{inst(api.OpSub, 2, 1, 0), "r2<r2,r1 pc<pc"},
		{inst(api.OpMul, 1, 2, 0), "r1<r1,r2 pc<pc"},
		{inst(api.OpAnd, 1, 2, 0), "r1<r1,r2 pc<pc"},
		{inst(api.OpOr, 1, 2, 0), "r1<r1,r2 pc<pc"},
		{inst(api.OpXor, 1, 1, 0), "r1<r1,r1 pc<pc"},
		{inst(api.OpShl, 1, 2, 0), "r1<r1,r2 pc<pc"},
		{inst(api.OpShr, 1, 2, 0), "r1<r1,r2 pc<pc"},
		{inst(api.OpSlt, 1, 2, 0), "r1<r1,r2 pc<pc"},
		{inst(api.OpLw, 1, 2, 0), "?<r2 pc<pc"},
		{inst(api.OpSw, 1, 2, 0), "?<r2 pc<pc"},
		{inst(api.OpLb, 1, 2, 1), "?<r2 pc<pc"},
		{inst(api.OpSb, 1, 2, 1), "?<r2 pc<pc"},
		{inst(api.OpBeq, 1, 2, 5), "?<r1,r2 pc<pc"},
		{inst(api.OpBeq, 2, 2, 5), "?<r2,r2 pc<pc"},
		{inst(api.OpBne, 2, 1, 5), "?<r2,r1 pc<pc"},
		{inst(api.OpBlt, 1, 2, 5), "?<r1,r2 pc<pc"},
		{inst(api.OpJal, 1, 0, 5), "r1<pc pc<pc"},
		{inst(api.OpJalr, 1, 2, 0), "?<r2 r1<pc pc<r2"},
		{inst(api.OpJalr, 2, 2, 0), "?<r2 r2<pc pc<r2"},
		{inst(api.OpIn, 1, 0, 0), "pc<pc"},
		{inst(api.OpOut, 1, 0, 1), "pc<pc"},
		{inst(api.OpOut, 1, 0, 0), "?<r1 pc<pc"},
		{inst(api.OpOut, 3, 0, 2), "?<r3 pc<pc"},
		{inst(api.OpOut, 1, 0, -1), "?<r1 pc<pc"},
		{inst(api.OpBack, 0, 0, 0), "?<mode pc<epc mode<mode"},
		{inst(api.OpGet, 1, 0, 0), "r1<epc pc<pc"},
		{inst(api.OpGet, 1, 0, 1), "r1<cause pc<pc"},
		{inst(api.OpGet, 1, 0, 2), "r1<vec pc<pc"},
		{inst(api.OpGet, 1, 0, 3), "r1<table pc<pc"},
		{inst(api.OpGet, 1, 0, 4), "r1<mode pc<pc"},
		{inst(api.OpGet, 1, 0, 5), "r1<pc pc<pc"},
		{inst(api.OpSet, 1, 0, 0), "epc<r1 pc<pc"},
		{inst(api.OpSet, 1, 0, 1), "cause<r1 pc<pc"},
		{inst(api.OpSet, 1, 0, 2), "vec<r1 pc<pc"},
		{inst(api.OpSet, 1, 0, 3), "table<r1 pc<pc"},
		{inst(api.OpSet, 1, 0, 4), "mode<mode,r1 pc<pc"},
		{inst(api.OpSet, 1, 0, 5), "pc<pc"},
		{inst(api.OpFlush, 0, 0, 0), "pc<pc"},
		{inst(api.OpCall, 0, 0, 0), trapTouches},
		{inst(api.OpLw, 1, 2, 1), "?<r2 " + trapTouches},
		{inst(api.OpLw, 1, 0, 1), "?<r0 " + trapTouches},
	} {
		w := encoded(t, row.inst)
		if got := text(Touches(usual(), w)); got != row.touches {
			t.Errorf("%v touches %q, not %q", row.inst, got, row.touches)
		}
		want := row.touches
		if slices.Contains(privileged(), row.inst.Op) {
			want = trapTouches
		}
		if got := text(Touches(lower(usual()), w)); got != want {
			t.Errorf("%v of the lower privilege touches %q, not %q", row.inst, got, want)
		}
	}
	if got := text(Trapped()); got != trapTouches {
		t.Errorf("Trapped is %q", got)
	}
}

// An answer is new memory, and shares none within itself.
func TestAnswersAreNewMemory(t *testing.T) {
	w := encoded(t, inst(api.OpBeq, 1, 2, 0))
	for _, tell := range []func() []api.Touch{Trapped, func() []api.Touch { return Touches(usual(), w) }} {
		want, spoiled := text(tell()), tell()
		for n, touch := range spoiled {
			rest := text(spoiled[n+1:])
			for at := range touch.From[:cap(touch.From)] {
				touch.From[:cap(touch.From)][at] = api.Place{Kind: api.PlaceReg, N: 7}
			}
			if text(spoiled[n+1:]) != rest {
				t.Error("touches share memory")
			}
			spoiled[n] = api.Touch{}
		}
		if got := text(tell()); got != want {
			t.Errorf("an answer was spoiled: %q, not %q", got, want)
		}
	}
}

// P10.3: over all instructions of some states: what Done changes beside the pc is what Touches tell, where it does not come by memory and ports.
func TestChangesAreTouched(t *testing.T) {
	next := steady(10)
	for range 40000 {
		s, w := anyState(next), anyWord(next)
		want, behind := Plan(s, w), Done(s, w, next(1<<31)*2+1)
		touched := map[api.Place]bool{}
		for _, touch := range Touches(s, w) {
			touched[touch.To] = true
		}
		for n := range s.Regs {
			if s.Regs[n] != behind.Regs[n] && want.Kind == api.WantTrap {
				t.Errorf("%#x traps, and changes r%d", w, n)
			}
			comes := want.Kind == api.WantLoad || want.Kind == api.WantIn
			changes(t, w, s.Regs[n] != behind.Regs[n] && !comes, touched[api.Place{Kind: api.PlaceReg, N: n}], "r"+strconv.Itoa(n))
		}
		for _, row := range []struct {
			changed bool
			kind    api.PlaceKind
			name    string
		}{
			{s.Epc != behind.Epc, api.PlaceEpc, "epc"},
			{s.Cause != behind.Cause, api.PlaceCause, "cause"},
			{s.Vec != behind.Vec, api.PlaceVec, "vec"},
			{s.Table != behind.Table, api.PlaceTable, "table"},
			{Status(s) != Status(behind), api.PlaceMode, "the mode"},
			{true, api.PlacePc, "the pc"},
		} {
			changes(t, w, row.changed, touched[api.Place{Kind: row.kind}], row.name)
		}
	}
}

// changes fails where a thing is changed that is not touched.
func changes(t *testing.T, w uint32, changed, touched bool, name string) {
	t.Helper()
	if changed && !touched {
		t.Errorf("%#x changes %s, and does not touch it", w, name)
	}
}

// anyState is one with small and great numbers.
func anyState(next func(uint32) uint32) api.State {
	number := func() uint32 {
		return [...]uint32{next(8), next(1<<31) * 2, 4 * next(64), -next(4)}[next(4)]
	}
	var s api.State
	for n := range s.Regs {
		s.Regs[n] = number()
	}
	s.Pc, s.Epc, s.Cause, s.Vec, s.Table = number(), number(), number(), number(), number()
	s.Super, s.Prev, s.Enabled = next(4) > 0, next(2) > 0, next(2) > 0
	return s
}

// anyWord is mostly an instruction.
func anyWord(next func(uint32) uint32) uint32 {
	i := api.Inst{Op: api.Op(next(30)), A: int(next(8)), B: int(next(8)), Imm: int(next(12)) - 3}
	if w, errno := isa.Encode(i); errno == api.OK {
		return w
	}
	i.B = 0
	if w, errno := isa.Encode(i); errno == api.OK {
		return w
	}
	i.A, i.Imm = 0, 0
	if w, errno := isa.Encode(i); errno == api.OK {
		return w
	}
	return next(1 << 31)
}

// P10.1: over all instructions of some states, what stands behind them is what a list of sentences says.
func TestDoneByHand(t *testing.T) {
	next := steady(11)
	for range 40000 {
		s, w, told := anyState(next), anyWord(next), next(1<<31)*2+1
		if got, want := Done(s, w, told), byHand(s, w, told); got != want {
			t.Errorf("behind %#x of %v is %v, not %v", w, s, got, want)
		}
	}
}

// byHand is the state behind a word, one sentence of the chapter behind the other, with numbers of 64 bits.
func byHand(s api.State, w, told uint32) api.State {
	if want := Plan(s, w); want.Kind == api.WantTrap {
		return api.State{Regs: s.Regs, Pc: s.Vec, Epc: s.Pc, Cause: want.Cause, Vec: s.Vec, Table: s.Table, Super: true, Prev: s.Super}
	}
	i, _ := isa.Decode(w)
	behind, a, b, imm := s, int64(s.Regs[i.A]), int64(s.Regs[i.B]), int64(i.Imm)
	sign := func(x int64) int64 { return (x+1<<31)%(1<<32) - 1<<31 }
	if1 := func(is bool, then, other int64) int64 { return map[bool]int64{true: then, false: other}[is] }
	next, target := int64(s.Pc)+4, int64(s.Pc)+4*imm
	pc := map[api.Op]int64{
		api.OpBeq: if1(a == b, target, next), api.OpBne: if1(a != b, target, next), api.OpBlt: if1(sign(a) < sign(b), target, next),
		api.OpJal: target, api.OpJalr: b, api.OpBack: int64(s.Epc),
	}
	behind.Pc = uint32(next)
	if to, is := pc[i.Op]; is {
		behind.Pc = uint32(to)
	}
	named := map[int64]uint32{0: s.Epc, 1: s.Cause, 2: s.Vec, 3: s.Table, 4: Status(s), 5: s.Pc}
	made := map[api.Op]int64{
		api.OpLui: imm * 65536, api.OpAddi: b + imm, api.OpAdd: a + b, api.OpSub: a - b, api.OpMul: int64(uint64(a) * uint64(b)),
		api.OpAnd: a & b, api.OpOr: a | b, api.OpXor: a ^ b, api.OpShl: a << (b & 31), api.OpShr: a >> (b & 31),
		api.OpSlt: if1(sign(a) < sign(b), 1, 0), api.OpLw: int64(told), api.OpLb: int64(told % 256), api.OpIn: int64(told),
		api.OpJal: next, api.OpJalr: next, api.OpGet: int64(named[imm]),
	}
	if value, is := made[i.Op]; is {
		behind.Regs[i.A] = uint32(value)
	}
	if i.Op == api.OpBack {
		behind.Super, behind.Enabled = s.Prev, true
	}
	if i.Op == api.OpSet {
		for n, part := range []*uint32{&behind.Epc, &behind.Cause, &behind.Vec, &behind.Table} {
			if imm == int64(n) {
				*part = uint32(a)
			}
		}
		if imm == 4 {
			behind.Prev, behind.Enabled = a/2%2 == 1, a/4%2 == 1
		}
	}
	return behind
}
