package board

import (
	"testing"

	"pomander/api"
	"pomander/isa"
)

// userBoard has 4 frames; the lower privilege has the page 0 as the frame 0 by the TLB, and a table at 128, whose words are given.
func userBoard(t *testing.T, i api.Inst, table ...uint32) *Board {
	t.Helper()
	b := made(t, 4, 1)
	lay(t, b, 0, encoded(t, i))
	lay(t, b, 128, table...)
	b.tlb.Fill(api.Entry{Page: 0, Frame: 0})
	b.state = api.State{Table: 128, Vec: 40}
	return b
}

// wordOf is a word of a page table.
func wordOf(frame, bits uint32) uint32 { return frame<<8 + bits }

// userFetch is what the fetch of the lower privilege tells at 0, of userBoard.
const userFetch = always + " ?<t0 ?<m0,m1,m2,m3"

// P11.1: where a load leads, in the higher privilege, up to the end of memory and beyond it.
func TestLoadsOfSuper(t *testing.T) {
	for _, row := range []struct {
		op    api.Op
		at    uint32
		imm   int
		value uint32
		is    bool
	}{
		{api.OpLw, 64, 0, 0x67666564, true},
		{api.OpLw, 124, 0, 0xa3a2a1a0, true},
		{api.OpLw, 128, -4, 0xa3a2a1a0, true},
		{api.OpLw, 128, 0, 0, false},
		{api.OpLw, 132, 0, 0, false},
		{api.OpLw, 4294967292, 0, 0, false},
		{api.OpLw, 2147483648, 0, 0, false},
		{api.OpLw, 4294967292, 68, 0x67666564, true},
		{api.OpLb, 125, 0, 0xa1, true},
		{api.OpLb, 127, 0, 0xa3, true},
		{api.OpLb, 128, 0, 0, false},
		{api.OpLb, 4294967295, 0, 0, false},
	} {
		b := made(t, 2, 1)
		w := encoded(t, inst(row.op, 1, 2, row.imm))
		b.Load(64, counted(100, 64))
		b.Load(124, counted(0xa0, 4))
		lay(t, b, 0, w)
		b.state.Regs[1], b.state.Regs[2], b.state.Vec = 99, row.at, 8
		is := stepIs{kind: api.StepTrap, word: w, cause: 4, touches: joined(always, "?<"+mem(0, 4), "?<r2", trapTouches)}
		if row.is {
			width := 4
			if row.op == api.OpLb {
				width = 1
			}
			is = stepIs{kind: api.StepRan, word: w, changes: func(b *Board) { b.state.Regs[1] = row.value }}
			is.touches = joined(always, "?<"+mem(0, 4), "?<r2", "pc<pc", "r1<"+mem(int(row.at+uint32(row.imm)), width))
		}
		is.steps(t, "a load", b)
	}
}

// P11.1: where a store leads, in the higher privilege, up to the end of memory and beyond it.
func TestStoresOfSuper(t *testing.T) {
	for _, row := range []struct {
		op      api.Op
		at      uint32
		put     []byte
		touches string
	}{
		{api.OpSw, 64, []byte{0x78, 0x56, 0x34, 0x12}, "m64<r1 m65<r1 m66<r1 m67<r1"},
		{api.OpSw, 124, []byte{0x78, 0x56, 0x34, 0x12}, "m124<r1 m125<r1 m126<r1 m127<r1"},
		{api.OpSw, 0, []byte{0x78, 0x56, 0x34, 0x12}, "m0<r1 m1<r1 m2<r1 m3<r1"},
		{api.OpSb, 65, []byte{0x78}, "m65<r1"},
		{api.OpSb, 127, []byte{0x78}, "m127<r1"},
		{api.OpSw, 128, nil, ""},
		{api.OpSw, 4294967292, nil, ""},
		{api.OpSb, 128, nil, ""},
		{api.OpSb, 4294967295, nil, ""},
	} {
		b := made(t, 2, 1)
		w := encoded(t, inst(row.op, 1, 2, 0))
		b.Load(64, counted(100, 64))
		lay(t, b, 0, w)
		b.state.Regs[1], b.state.Regs[2], b.state.Vec = 0x12345678, row.at, 8
		is := stepIs{kind: api.StepTrap, word: w, cause: 5, touches: joined(always, "?<"+mem(0, 4), "?<r2", trapTouches)}
		if row.put != nil {
			is = stepIs{kind: api.StepRan, word: w, changes: func(b *Board) { b.Load(int(row.at), row.put) }}
			is.touches = joined(always, "?<"+mem(0, 4), "?<r2", "pc<pc", row.touches)
		}
		is.steps(t, "a store", b)
	}
}

// P11.1: instructions that want nothing from outside, with the touches of layer 10.
func TestRan(t *testing.T) {
	for _, row := range []struct {
		inst    api.Inst
		touches string
		changes func(b *Board)
	}{
		{inst(api.OpAddi, 1, 2, 7), "r1<r2 pc<pc", func(b *Board) { b.state.Regs[1] = 15 }},
		{inst(api.OpBeq, 1, 2, 4), "?<r1,r2 pc<pc", func(b *Board) {}},
		{inst(api.OpBne, 1, 2, 4), "?<r1,r2 pc<pc", func(b *Board) { b.state.Pc = 16 }},
		{inst(api.OpJalr, 1, 2, 0), "?<r2 r1<pc pc<r2", func(b *Board) { b.state.Pc, b.state.Regs[1] = 8, 4 }},
		{inst(api.OpSet, 2, 0, 2), "vec<r2 pc<pc", func(b *Board) { b.state.Vec = 8 }},
		{inst(api.OpBack, 0, 0, 0), "?<mode pc<epc mode<mode", func(b *Board) { b.state.Pc, b.state.Super, b.state.Enabled = 24, false, true }},
	} {
		b, w := made(t, 1, 1), encoded(t, row.inst)
		lay(t, b, 0, w)
		b.state.Regs[2], b.state.Epc = 8, 24
		is := stepIs{kind: api.StepRan, word: w, touches: joined(always, "?<"+mem(0, 4), row.touches), changes: row.changes}
		is.steps(t, "an instruction", b)
	}
}

// P11.1: flush empties the TLB; that is told of all entries.
func TestFlush(t *testing.T) {
	for many := range 6 {
		b, w := made(t, 1, 1), encoded(t, inst(api.OpFlush, 0, 0, 0))
		lay(t, b, 0, w)
		for page := range many {
			b.tlb.Fill(api.Entry{Page: uint32(page)})
		}
		is := stepIs{kind: api.StepRan, word: w, changes: func(b *Board) { b.tlb.Flush() }}
		is.touches = joined(always, "?<"+mem(0, 4), "pc<pc", "t0< t1< t2< t3<")
		is.steps(t, "flush", b)
		if b.tlb.Next() != 0 {
			t.Errorf("behind flush the next slot is %d", b.tlb.Next())
		}
	}
}

// P11.1: traps by which an instruction is not done; what layer 10 says of them is told.
func TestTrapsOfWords(t *testing.T) {
	for _, row := range []struct {
		name    string
		word    uint32
		user    bool
		cause   uint32
		touches string
	}{
		{"a word that is none", 0xffffffff, false, 1, trapTouches},
		{"a word that is none, of the lower privilege", 0, true, 1, trapTouches},
		{"get of 6", encoded(t, inst(api.OpGet, 1, 0, 6)), false, 1, trapTouches},
		{"halt of the lower privilege", encoded(t, inst(api.OpHalt, 0, 0, 0)), true, 2, trapTouches},
		{"in of the lower privilege", encoded(t, inst(api.OpIn, 1, 0, 0)), true, 2, trapTouches},
		{"out of the lower privilege", encoded(t, inst(api.OpOut, 2, 0, 1)), true, 2, trapTouches},
		{"the disk's command of the lower privilege", encoded(t, inst(api.OpOut, 2, 0, 5)), true, 2, trapTouches},
		{"flush of the lower privilege", encoded(t, inst(api.OpFlush, 0, 0, 0)), true, 2, trapTouches},
		{"lw of 21", encoded(t, inst(api.OpLw, 1, 2, 1)), false, 6, "?<r2 " + trapTouches},
		{"sw of 22, of the lower privilege", encoded(t, inst(api.OpSw, 1, 2, 2)), true, 6, "?<r2 " + trapTouches},
		{"jalr to 23", encoded(t, inst(api.OpJalr, 1, 3, 0)), false, 6, "?<r3 " + trapTouches},
		{"call", encoded(t, inst(api.OpCall, 0, 0, 0)), false, 8, trapTouches},
		{"call of the lower privilege", encoded(t, inst(api.OpCall, 0, 0, 0)), true, 8, trapTouches},
	} {
		b := userBoard(t, inst(api.OpHalt, 0, 0, 0))
		lay(t, b, 0, row.word)
		b.Type([]byte("x"))
		b.state.Regs[2], b.state.Regs[3], b.state.Super = 20, 23, !row.user
		fetched := always + " ?<m0,m1,m2,m3"
		if row.user {
			fetched = userFetch
		}
		stepIs{kind: api.StepTrap, word: row.word, cause: row.cause, touches: joined(fetched, row.touches)}.steps(t, row.name, b)
	}
}

// P11.1: a pc at which nothing is fetched, in both privileges.
func TestPcIsNotComeTo(t *testing.T) {
	for _, row := range []struct {
		name  string
		pc    uint32
		user  bool
		cause uint32
	}{
		{"at 1", 1, false, 6}, {"at 2", 2, true, 6}, {"at 3", 3, false, 6}, {"at 4294967295", 4294967295, true, 6}, {"at 257", 257, false, 6}, {"at 1025", 1025, true, 6},
		{"at the end of memory", 256, false, 3}, {"beyond it", 260, false, 3}, {"at 4294967292", 4294967292, false, 3},
		{"of the page 16", 1024, true, 3}, {"of a page far above", 4294967292, true, 3}, {"of the page 17", 1088, true, 3},
	} {
		b := userBoard(t, inst(api.OpHalt, 0, 0, 0))
		b.state.Pc, b.state.Super = row.pc, !row.user
		stepIs{kind: api.StepTrap, cause: row.cause, touches: joined(always, trapTouches)}.steps(t, "a pc "+row.name, b)
	}
	b, w := made(t, 4, 1), encoded(t, inst(api.OpLui, 1, 0, 1))
	lay(t, b, 252, w)
	b.state.Pc = 252
	is := stepIs{kind: api.StepRan, word: w, changes: func(b *Board) { b.state.Regs[1] = 65536 }}
	is.touches = joined(always, "?<"+mem(252, 4), "r1< pc<pc")
	is.steps(t, "a pc at the last word", b)
}

// P11.1: how the lower privilege comes to the pc by the TLB and by the table.
func TestFetchByPages(t *testing.T) {
	w := encoded(t, inst(api.OpAddi, 1, 1, 1))
	ran := func(b *Board) { b.state.Regs[1]++ }
	for _, row := range []struct {
		name    string
		pc      uint32
		ready   func(b *Board)
		kind    api.StepKind
		touches string
		changes func(b *Board)
	}{
		{"the TLB has it", 64 + 8, func(b *Board) { b.tlb.Fill(api.Entry{Page: 1, Frame: 3}) },
			api.StepRan, "?<t1 ?<" + mem(200, 4), func(b *Board) {}},
		{"the TLB has the page 15", 960, func(b *Board) { b.tlb.Fill(api.Entry{Page: 15, Frame: 3, Write: true}) },
			api.StepRan, "?<t1 ?<" + mem(192, 4), func(b *Board) {}},
		{"the TLB has it, the table otherwise", 64 + 60, func(b *Board) {
			b.tlb.Fill(api.Entry{Page: 1, Frame: 3})
			lay(t, b, 132, wordOf(1, 1))
		}, api.StepRan, "?<t1 ?<" + mem(252, 4), func(b *Board) {}},
		{"the TLB has it, the table is nowhere", 64 + 8, func(b *Board) {
			b.tlb.Fill(api.Entry{Page: 1, Frame: 3})
			b.state.Table = 1 << 31
		}, api.StepRan, "?<t1 ?<" + mem(200, 4), func(b *Board) {}},
		{"the table has it", 64 + 8, func(b *Board) { lay(t, b, 132, wordOf(3, 1)) },
			api.StepRan, "?<table ?<m132,m133,m134,m135 t1<table,m132,m133,m134,m135 ?<t1 ?<" + mem(200, 4),
			func(b *Board) { b.tlb.Fill(api.Entry{Page: 1, Frame: 3}) }},
		{"the table has it, to be written, and with other bits", 64, func(b *Board) { lay(t, b, 132, wordOf(3, 255)) },
			api.StepRan, "?<table ?<m132,m133,m134,m135 t1<table,m132,m133,m134,m135 ?<t1 ?<" + mem(192, 4),
			func(b *Board) { b.tlb.Fill(api.Entry{Page: 1, Frame: 3, Write: true}) }},
		{"the table has the page 15", 960, func(b *Board) { lay(t, b, 188, wordOf(3, 1)) },
			api.StepRan, "?<table ?<m188,m189,m190,m191 t1<table,m188,m189,m190,m191 ?<t1 ?<" + mem(192, 4),
			func(b *Board) { b.tlb.Fill(api.Entry{Page: 15, Frame: 3}) }},
		{"the table has it as the last word of memory", 64, func(b *Board) {
			lay(t, b, 252, wordOf(3, 1))
			b.state.Table = 248
		}, api.StepRan, "?<table ?<m252,m253,m254,m255 t1<table,m252,m253,m254,m255 ?<t1 ?<" + mem(192, 4),
			func(b *Board) { b.tlb.Fill(api.Entry{Page: 1, Frame: 3}) }},
		{"the table begins below 0", 128, func(b *Board) {
			lay(t, b, 4, wordOf(3, 1))
			b.state.Table = 4294967292
		}, api.StepRan, "?<table ?<m4,m5,m6,m7 t1<table,m4,m5,m6,m7 ?<t1 ?<" + mem(192, 4),
			func(b *Board) { b.tlb.Fill(api.Entry{Page: 2, Frame: 3}) }},
		{"all slots have entries", 64, func(b *Board) {
			for page := range uint32(3) {
				b.tlb.Fill(api.Entry{Page: 8 + page, Frame: 2})
			}
			lay(t, b, 132, wordOf(3, 1))
		}, api.StepRan, "?<table ?<m132,m133,m134,m135 t0<table,m132,m133,m134,m135 ?<t0 ?<" + mem(192, 4),
			func(b *Board) { b.tlb.Fill(api.Entry{Page: 1, Frame: 3}) }},
		{"the table has it not", 64, func(b *Board) { lay(t, b, 132, wordOf(3, 2)) }, api.StepTrap, "?<table ?<m132,m133,m134,m135", nil},
		{"the table has noughts", 64, func(b *Board) {}, api.StepTrap, "?<table ?<m132,m133,m134,m135", nil},
		{"memory has not the frame", 64, func(b *Board) { lay(t, b, 132, wordOf(4, 1)) }, api.StepTrap, "?<table ?<m132,m133,m134,m135", nil},
		{"memory has the frame by no means", 64, func(b *Board) { lay(t, b, 132, wordOf(1<<24-1, 3)) }, api.StepTrap, "?<table ?<m132,m133,m134,m135", nil},
		{"the frame is one of 65536 more", 64, func(b *Board) { lay(t, b, 132, wordOf(1<<16+3, 3)) }, api.StepTrap, "?<table ?<m132,m133,m134,m135", nil},
		{"the table is at the end of memory", 64, func(b *Board) { b.state.Table = 252 }, api.StepTrap, "?<table", nil},
		{"the table is beyond memory", 64, func(b *Board) { b.state.Table = 1 << 31 }, api.StepTrap, "?<table", nil},
		{"the table's word is the last one of all", 64, func(b *Board) { b.state.Table = 4294967288 }, api.StepTrap, "?<table", nil},
		{"the table is at no multiple of 4", 64, func(b *Board) {
			lay(t, b, 132, 0x00030100, 3)
			b.state.Table = 129
		}, api.StepTrap, "?<table ?<m133,m134,m135,m136", nil},
		{"the table is at no multiple of 4, partly beyond memory", 64, func(b *Board) { b.state.Table = 250 }, api.StepTrap, "?<table", nil},
	} {
		b := userBoard(t, inst(api.OpCall, 0, 0, 0))
		for at := 192; at < 256; at += 4 {
			lay(t, b, at, w)
		}
		b.state.Pc = row.pc
		row.ready(b)
		is := stepIs{kind: row.kind, cause: 3, touches: joined(always, row.touches, trapTouches), changes: row.changes}
		if row.kind == api.StepRan {
			is.word, is.cause, is.touches = w, 0, joined(always, row.touches, "r1<r1 pc<pc")
			is.changes = func(b *Board) { ran(b); row.changes(b) }
		}
		is.steps(t, row.name, b)
	}
}

// P11.1: how the lower privilege comes to what it loads and stores; what may not be written goes into the TLB all the same.
func TestLoadsAndStoresByPages(t *testing.T) {
	walked := "?<table ?<m132,m133,m134,m135"
	for _, row := range []struct {
		name    string
		op      api.Op
		at      uint32
		ready   func(b *Board)
		cause   uint32 // 0: none
		ahead   string // the touches ahead of layer 10's
		behind  string
		changes func(b *Board)
	}{
		{"lw, the TLB has it", api.OpLw, 72, func(b *Board) { b.tlb.Fill(api.Entry{Page: 1, Frame: 3}) },
			0, "?<t1", "r1<" + mem(200, 4), func(b *Board) { b.state.Regs[1] = 0x0b0a0908 }},
		{"lb, the TLB has it", api.OpLb, 127, func(b *Board) { b.tlb.Fill(api.Entry{Page: 1, Frame: 3}) },
			0, "?<t1", "r1<m255", func(b *Board) { b.state.Regs[1] = 63 }},
		{"lw, the table has it", api.OpLw, 124, func(b *Board) { lay(t, b, 132, wordOf(3, 1)) },
			0, walked + " t1<table,m132,m133,m134,m135 ?<t1", "r1<" + mem(252, 4), func(b *Board) {
				b.state.Regs[1] = 0x3f3e3d3c
				b.tlb.Fill(api.Entry{Page: 1, Frame: 3})
			}},
		{"lw of the page of the word", api.OpLw, 0, func(b *Board) {}, 0, "?<t0", "r1<m0,m1,m2,m3", func(b *Board) { b.state.Regs[1] = b.word(0) }},
		{"lw of the page 15", api.OpLw, 960, func(b *Board) { b.tlb.Fill(api.Entry{Page: 15, Frame: 3}) },
			0, "?<t1", "r1<" + mem(192, 4), func(b *Board) { b.state.Regs[1] = 0x03020100 }},
		{"lw of the page 16", api.OpLw, 1024, func(b *Board) {}, 4, "", "", nil},
		{"lb of the last address", api.OpLb, 4294967295, func(b *Board) {}, 4, "", "", nil},
		{"lw, the table has it not", api.OpLw, 64, func(b *Board) {}, 4, walked, "", nil},
		{"lw, memory has not the frame", api.OpLw, 64, func(b *Board) { lay(t, b, 132, wordOf(4, 3)) }, 4, walked, "", nil},
		{"lw, the table is beyond memory", api.OpLw, 64, func(b *Board) { b.state.Table = 252 }, 4, "?<table", "", nil},
		{"lw, the table is at no multiple of 4", api.OpLw, 64, func(b *Board) {
			b.state.Table = 130
			lay(t, b, 132, 0x03010000, 0)
		}, 4, "?<table ?<m134,m135,m136,m137", "", nil},
		{"sw, the TLB has it", api.OpSw, 72, func(b *Board) { b.tlb.Fill(api.Entry{Page: 1, Frame: 3, Write: true}) },
			0, "?<t1", "m200<r1 m201<r1 m202<r1 m203<r1", func(b *Board) { lay(t, b, 200, 0x12345678) }},
		{"sw, the table has it", api.OpSw, 64, func(b *Board) { lay(t, b, 132, wordOf(3, 3)) },
			0, walked + " t1<table,m132,m133,m134,m135 ?<t1", "m192<r1 m193<r1 m194<r1 m195<r1", func(b *Board) {
				lay(t, b, 192, 0x12345678)
				b.tlb.Fill(api.Entry{Page: 1, Frame: 3, Write: true})
			}},
		{"sb, the TLB has it", api.OpSb, 127, func(b *Board) { b.tlb.Fill(api.Entry{Page: 1, Frame: 3, Write: true}) },
			0, "?<t1", "m255<r1", func(b *Board) { b.Load(255, []byte{0x78}) }},
		{"sw, the TLB has it, not to be written", api.OpSw, 72, func(b *Board) { b.tlb.Fill(api.Entry{Page: 1, Frame: 3}) }, 5, "?<t1", "", nil},
		{"sw, the TLB has it not to be written, the table to be", api.OpSw, 72, func(b *Board) {
			b.tlb.Fill(api.Entry{Page: 1, Frame: 3})
			lay(t, b, 132, wordOf(3, 3))
		}, 5, "?<t1", "", nil},
		{"sb, the table has it, not to be written", api.OpSb, 67, func(b *Board) { lay(t, b, 132, wordOf(3, 1)) },
			5, walked + " t1<table,m132,m133,m134,m135 ?<t1", "", func(b *Board) { b.tlb.Fill(api.Entry{Page: 1, Frame: 3}) }},
		{"sw of the page of the word, not to be written", api.OpSw, 4, func(b *Board) {}, 5, "?<t0", "", nil},
		{"sw of the page 16", api.OpSw, 1024, func(b *Board) {}, 5, "", "", nil},
		{"sw, the table has it not", api.OpSw, 64, func(b *Board) { lay(t, b, 132, wordOf(3, 2)) }, 5, walked, "", nil},
	} {
		b := userBoard(t, inst(row.op, 1, 2, 0))
		w := b.word(0)
		b.Load(192, counted(0, 64))
		b.state.Regs[1], b.state.Regs[2] = 0x12345678, row.at
		row.ready(b)
		is := stepIs{kind: api.StepRan, word: w, touches: joined(userFetch, row.ahead, "?<r2 pc<pc", row.behind), changes: row.changes}
		if row.cause != 0 {
			is.kind, is.cause, is.touches = api.StepTrap, row.cause, joined(userFetch, row.ahead, "?<r2", trapTouches)
		}
		is.steps(t, row.name, b)
	}
}

// P11.1: a step that goes by the table twice: the entry of the word and that of what it loads; and one that goes by one entry twice, filled in it.
func TestTwoWalksOfAStep(t *testing.T) {
	w := encoded(t, inst(api.OpLw, 1, 2, 0))
	b := made(t, 4, 1)
	lay(t, b, 64, w, 77)
	lay(t, b, 128, wordOf(1, 1), wordOf(0, 1))
	b.state = api.State{Table: 128}
	b.state.Regs[2] = 64 + 8
	both := b.Copy()
	lay(t, b, 8, 55)
	is := stepIs{kind: api.StepRan, word: w, changes: func(b *Board) {
		b.state.Regs[1] = 55
		b.tlb.Fill(api.Entry{Page: 0, Frame: 1})
		b.tlb.Fill(api.Entry{Page: 1, Frame: 0})
	}}
	first := "?<table ?<m128,m129,m130,m131 t0<table,m128,m129,m130,m131 ?<t0 ?<" + mem(64, 4)
	is.touches = joined(always, first, "?<table ?<m132,m133,m134,m135 t1<table,m132,m133,m134,m135 ?<t1 ?<r2 pc<pc r1<"+mem(8, 4))
	is.steps(t, "two walks", b)

	both.state.Regs[2] = 4
	is.changes = func(b *Board) {
		b.state.Regs[1] = 77
		b.tlb.Fill(api.Entry{Page: 0, Frame: 1})
	}
	is.touches = joined(always, first, "?<t0 ?<r2 pc<pc r1<"+mem(68, 4))
	is.steps(t, "one walk, one entry", both)
}

// P11.1: what interrupts, by mask, alarm and what is enabled; the lowest line goes ahead, and an interrupt ahead of any other trap.
func TestInterrupts(t *testing.T) {
	wants := map[string]func(b *Board){
		"nothing":      func(b *Board) {},
		"a byte":       func(b *Board) { b.Type([]byte("x")) },
		"the disk":     func(b *Board) { b.lines.Raise(2, true) },
		"a packet":     func(b *Board) { b.Send(nil) },
		"alarm now":    func(b *Board) { b.lines.SetAlarm(7) },
		"alarm past":   func(b *Board) { b.lines.SetAlarm(1) },
		"alarm next":   func(b *Board) { b.lines.SetAlarm(8) },
		"alarm never":  func(b *Board) { b.lines.SetAlarm(4294967295) },
		"alarm of all": func(b *Board) { b.lines.SetAlarm(7); b.Type([]byte("x")); b.lines.Raise(2, true); b.Send(nil) },
		"all but it":   func(b *Board) { b.lines.SetAlarm(8); b.Type([]byte("x")); b.lines.Raise(2, true); b.Send(nil) },
		"disk and net": func(b *Board) { b.lines.Raise(2, true); b.Send([]byte("y")) },
	}
	for _, row := range []struct {
		wants string
		mask  uint32
		line  int // -1: none
	}{
		{"nothing", 15, -1}, {"a byte", 15, 1}, {"a byte", 2, 1}, {"a byte", 13, -1}, {"a byte", 0, -1},
		{"the disk", 15, 2}, {"the disk", 4, 2}, {"the disk", 11, -1},
		{"a packet", 15, 3}, {"a packet", 8, 3}, {"a packet", 7, -1},
		{"alarm now", 15, 0}, {"alarm now", 1, 0}, {"alarm now", 14, -1}, {"alarm past", 1, 0}, {"alarm next", 15, -1}, {"alarm never", 1, -1},
		{"alarm of all", 15, 0}, {"alarm of all", 14, 1}, {"alarm of all", 12, 2}, {"alarm of all", 8, 3}, {"alarm of all", 0, -1},
		{"all but it", 15, 1}, {"all but it", 9, 3}, {"disk and net", 15, 2}, {"disk and net", 10, 3}, {"disk and net", 3, -1},
	} {
		for _, pc := range []uint32{0, 1, 4096} {
			for status := range uint32(4) {
				b := userBoard(t, inst(api.OpAddi, 1, 0, 5))
				b.state.Super, b.state.Enabled, b.state.Pc = status&1 != 0, status&2 != 0, pc
				b.now = 7
				wants[row.wants](b)
				b.lines.SetMask(row.mask)
				interrupts(t, row.wants, b, row.line)
			}
		}
	}
}

// interrupts fails where a board's step is not an interrupt of the line, or, of -1 or where none may come, is one.
func interrupts(t *testing.T, name string, b *Board, line int) {
	t.Helper()
	if line < 0 || !b.state.Enabled {
		if x, _ := b.Step(); x.Kind == api.StepInt {
			t.Errorf("%s: an interrupt of %d", name, x.Cause)
		}
		return
	}
	stepIs{kind: api.StepInt, cause: uint32(16 + line), touches: joined(always, trapTouches)}.steps(t, name, b)
}

// P11.1: an alarm goes off at its time, not ahead of it, and behind back once more.
func TestAlarmInTime(t *testing.T) {
	b := made(t, 1, 1)
	lay(t, b, 0, encoded(t, inst(api.OpBack, 0, 0, 0)), encoded(t, inst(api.OpAddi, 1, 1, 1)), encoded(t, inst(api.OpAddi, 1, 1, 1)), encoded(t, inst(api.OpAddi, 1, 1, 1)))
	b.state.Pc, b.state.Enabled, b.state.Prev = 4, true, true
	b.lines.SetAlarm(2)
	b.lines.SetMask(1)
	var kinds []api.StepKind
	for range 6 {
		x, _ := b.Step()
		kinds = append(kinds, x.Kind)
		if b.state.Super != true {
			t.Error("the lower privilege runs")
		}
	}
	for n, want := range []api.StepKind{api.StepRan, api.StepRan, api.StepInt, api.StepRan, api.StepInt, api.StepRan} {
		if kinds[n] != want {
			t.Errorf("the step %d is %d, not %d", n, kinds[n], want)
		}
	}
	if b.state.Regs[1] != 2 || b.state.Epc != 12 || b.Now() != 6 {
		t.Errorf("%v at %d", b.state, b.Now())
	}
}

// P11.1: what the word is follows from memory as it is at the step.
func TestWordIsFetchedAnew(t *testing.T) {
	b := made(t, 1, 1)
	addi := encoded(t, inst(api.OpAddi, 2, 0, 9))
	lay(t, b, 0, encoded(t, inst(api.OpSw, 1, 0, 4)), encoded(t, inst(api.OpHalt, 0, 0, 0)))
	b.state.Regs[1] = addi
	b.Step()
	if x, _ := b.Step(); x.Word != addi || b.state.Regs[2] != 9 || b.Halted() {
		i, _ := isa.Decode(x.Word)
		t.Errorf("what was stored is not done, but %v", i)
	}
}
