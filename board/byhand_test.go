package board

import (
	"bytes"
	"slices"
	"strconv"
	"strings"
	"testing"

	"pomander/api"
	"pomander/cpu"
	"pomander/isa"
)

// byHand is a board of plain lists, done by the chapter's sentences one behind the other.
type byHand struct {
	memory, disk, queue, told []byte
	taken                     int // how many bytes that were typed were taken
	packets, sent             [][]byte
	gone                      int // how many bytes the packets had that were taken
	slots                     [4]api.Entry
	next                      int
	state                     api.State
	alarm, mask               uint32
	diskUp                    bool
	diskTold, netTold         uint32
	now                       int64
	halted                    bool
}

// handOf is the same board by hand, of one to which nothing was typed and sent yet, and that has told and sent nothing.
func handOf(b *Board) *byHand {
	return &byHand{memory: b.Memory(), disk: b.Disk(), slots: [4]api.Entry(b.tlb.All()), next: b.tlb.Next(), state: b.state,
		alarm: b.lines.Alarm(), mask: b.lines.Mask(), diskUp: b.lines.Raised(2), diskTold: b.answers[0], netTold: b.answers[1], now: b.now}
}

// differs tells in what a board is not the one by hand.
func (h *byHand) differs(b *Board) string {
	l := b.lines
	for what, same := range map[string]bool{
		"memory":     bytes.Equal(b.Memory(), h.memory),
		"the disk":   bytes.Equal(b.Disk(), h.disk),
		"what waits": bytes.Equal(l.Queue(), h.queue),
		"packets":    slices.EqualFunc(b.net.Queue(), h.packets, bytes.Equal),
		"told":       bytes.Equal(b.Told(), h.told),
		"sent":       slices.EqualFunc(b.Sent(), h.sent, bytes.Equal),
		"the TLB":    slices.Equal(b.tlb.All(), h.slots[:]) && b.tlb.Next() == h.next,
		"the state":  b.State() == h.state,
		"lines":      l.Alarm() == h.alarm && l.Mask() == h.mask && l.Raised(2) == h.diskUp && l.Raised(3) == (len(h.packets) > 0),
		"answers":    b.answers == [2]uint32{h.diskTold, h.netTold},
		"the time":   b.Now() == h.now && b.Halted() == h.halted,
	} {
		if !same {
			return what
		}
	}
	return ""
}

// in tells whether n bytes are in memory.
func (h *byHand) in(at uint32, n int64) bool { return int64(at)+n <= int64(len(h.memory)) }

// word is the one at an address.
func (h *byHand) word(at uint32) uint32 {
	m := h.memory[at:]
	return uint32(m[0]) + uint32(m[1])<<8 + uint32(m[2])<<16 + uint32(m[3])<<24
}

// pending is the lowest line that is, or -1.
func (h *byHand) pending() int {
	for line, wants := range []bool{h.alarm > 0 && h.now >= int64(h.alarm), len(h.queue) > 0, h.diskUp, len(h.packets) > 0} {
		if wants && h.mask>>line&1 == 1 {
			return line
		}
	}
	return -1
}

// come tells where an address is, what touched what on the way, and whether it is come to.
func (h *byHand) come(addr uint32, n int64, write bool) (at uint32, l []string, is bool) {
	if h.state.Super {
		return addr, nil, h.in(addr, n)
	}
	page := addr / 64
	if page > 15 {
		return 0, nil, false
	}
	slot := slices.IndexFunc(h.slots[:], func(e api.Entry) bool { return e.There && e.Page == page })
	if slot < 0 {
		l = append(l, "?<table")
		where := h.state.Table + 4*page
		if !h.in(where, 4) {
			return 0, l, false
		}
		four := mem(int(where), 4)
		l = append(l, "?<"+four)
		w := h.word(where)
		if where%4 != 0 || w%2 == 0 || w/256 >= uint32(len(h.memory)/64) {
			return 0, l, false
		}
		slot, h.next = h.next, (h.next+1)%4
		h.slots[slot] = api.Entry{There: true, Page: page, Frame: w / 256, Write: w/2%2 == 1}
		l = append(l, "t"+strconv.Itoa(slot)+"<table,"+four)
	}
	l = append(l, "?<t"+strconv.Itoa(slot))
	return h.slots[slot].Frame*64 + addr%64, l, !write || h.slots[slot].Write
}

// step does a step: what is told of it, its touches as a text.
func (h *byHand) step() (api.Stepped, string) {
	if h.halted {
		return api.Stepped{Kind: api.StepHalted}, ""
	}
	x, l := api.Stepped{Kind: api.StepRan, Pc: h.state.Pc}, []string{always}
	trap := func(kind api.StepKind, cause uint32, touches ...string) (api.Stepped, string) {
		x.Kind, x.Cause = kind, cause
		h.state = cpu.Trap(h.state, cause)
		h.now++
		return x, joined(append(l, touches...)...)
	}
	if line := h.pending(); h.state.Enabled && line >= 0 {
		return trap(api.StepInt, 16+uint32(line), trapTouches)
	}
	if h.state.Pc%4 != 0 {
		return trap(api.StepTrap, 6, trapTouches)
	}
	at, touches, is := h.come(h.state.Pc, 4, false)
	l = append(l, touches...)
	if !is {
		return trap(api.StepTrap, 3, trapTouches)
	}
	l = append(l, "?<"+mem(int(at), 4))
	x.Word = h.word(at)
	i, _ := isa.Decode(x.Word)
	want := cpu.Plan(h.state, x.Word)
	ofCpu := text(cpu.Touches(h.state, x.Word))
	if want.Kind == api.WantTrap {
		return trap(api.StepTrap, want.Cause, ofCpu)
	}
	if want.Kind == api.WantLoad || want.Kind == api.WantStore {
		cause := map[api.WantKind]uint32{api.WantLoad: 4, api.WantStore: 5}[want.Kind]
		at, touches, is = h.come(want.Addr, int64(want.Width), want.Kind == api.WantStore)
		l = append(l, touches...)
		if !is {
			return trap(api.StepTrap, cause, "?<r"+strconv.Itoa(i.B), trapTouches)
		}
	}
	l = append(l, ofCpu)
	told, touches := h.wanted(want, at, "r"+strconv.Itoa(i.A))
	l = append(l, touches...)
	h.state = cpu.Done(h.state, x.Word, told)
	h.now++
	return x, joined(l...)
}

// wanted does what an instruction wants that does not trap: what is told to it, and what touched what.
func (h *byHand) wanted(want api.Want, at uint32, a string) (told uint32, l []string) {
	switch want.Kind {
	case api.WantLoad:
		for n := range want.Width {
			told += uint32(h.memory[int(at)+n]) << (8 * n)
		}
		l = []string{a + "<" + mem(int(at), want.Width)}
	case api.WantStore:
		for n := range want.Width {
			h.memory[int(at)+n] = byte(want.Value >> (8 * n))
			l = append(l, mem(int(at)+n, 1)+"<"+a)
		}
	case api.WantIn:
		told, at := h.in1(want.Port)
		return told, []string{a + "<" + at}
	case api.WantOut:
		l = h.out(want.Port, want.Value, a)
	case api.WantHalt:
		h.halted = true
	case api.WantFlush:
		h.slots, h.next = [4]api.Entry{}, 0
		l = []string{"t0< t1< t2< t3<"}
	}
	return told, l
}

// in1 tells what a port tells, and where it came from.
func (h *byHand) in1(port int) (uint32, string) {
	switch {
	case port == 0 && len(h.queue) == 0:
		return 4294967295, ""
	case port == 0:
		b, number := h.queue[0], h.taken
		h.queue, h.taken = h.queue[1:], number+1
		return uint32(b), "in" + strconv.Itoa(number)
	case port == 1:
		return uint32(len(h.queue)), ""
	case port == 2:
		return uint32(h.now), ""
	case port == 4:
		return h.mask, "mask"
	case port == 6:
		h.diskUp = false
		return h.diskTold, "ask0"
	case port == 8:
		return h.netTold, "ask1"
	}
	return 0, ""
}

// out does what a port does.
func (h *byHand) out(port int, value uint32, a string) (l []string) {
	var words []uint32
	var four []string
	for n := range map[int]uint32{5: 3, 7: 2, 9: 2}[port] {
		if at := int64(value) + 4*int64(n); at+4 <= int64(len(h.memory)) {
			words, four = append(words, h.word(uint32(at))), append(four, mem(int(at), 4))
		}
	}
	if len(four) > 0 {
		l = append(l, "?<"+strings.Join(four, ","))
	}
	switch port {
	case 1:
		h.told = append(h.told, byte(value))
		return []string{"out" + strconv.Itoa(len(h.told)-1) + "<" + a}
	case 3:
		h.alarm = value
		return []string{"alarm<" + a}
	case 4:
		h.mask = value % 16
		return []string{"mask<" + a}
	case 5:
		h.diskTold, h.diskUp = 1, true
		if len(words) == 3 && int(words[0]) < len(h.disk)/64 && h.in(words[1], 64) && words[1]%64 == 0 && words[2] < 2 {
			sector, memory := 64*int(words[0]), int(words[1])
			if words[2] == 0 {
				copy(h.memory[memory:memory+64], h.disk[sector:])
				l = append(l, moved("m", memory, "s", sector, 64))
			} else {
				copy(h.disk[sector:sector+64], h.memory[memory:])
				l = append(l, moved("s", sector, "m", memory, 64))
			}
			h.diskTold = 0
		}
		return append(l, "ask0<")
	case 7:
		h.netTold = 4294967295
		if len(words) == 2 && len(h.packets) > 0 && h.in(words[0], int64(words[1])) {
			packet := h.packets[0]
			many := copy(h.memory[words[0]:words[0]+words[1]], packet)
			l = append(l, moved("m", int(words[0]), "p", h.gone, many))
			h.packets, h.gone, h.netTold = h.packets[1:], h.gone+len(packet), uint32(many)
		}
		return append(l, "ask1<")
	case 9:
		h.netTold = 4294967295
		if len(words) == 2 && words[1] <= 64 && h.in(words[0], int64(words[1])) {
			l = append(l, moved("sent", len(slices.Concat(h.sent...)), "m", int(words[0]), int(words[1])))
			h.sent = append(h.sent, slices.Clone(h.memory[words[0]:words[0]+words[1]]))
			h.netTold = words[1]
		}
		return append(l, "ask1<")
	}
	return l
}

// anyNumber is one that means something to a board of so many frames: an address, a page, a length, a sector, or none of these.
func anyNumber(next func(uint32) uint32, frames int) uint32 {
	size := uint32(64 * frames)
	switch next(10) {
	case 0, 1, 2:
		return 4 * next(size/4+1)
	case 3, 4:
		return 64 * next(uint32(frames)+2)
	case 5:
		return size - next(16)
	case 6:
		return -next(20)
	case 7:
		return next(1<<31)*2 + next(2)
	}
	return next(6)
}

// anyWord is an instruction, mostly; or a word of a page table, or a number.
func anyWord(next func(uint32) uint32, frames int) uint32 {
	switch next(8) {
	case 0:
		return next(uint32(frames)+1)<<8 + next(4)
	case 1, 2:
		return anyNumber(next, frames)
	}
	i := api.Inst{Op: api.Op(next(30)), A: int(next(8)), B: int(next(8)), Imm: int(next(12)) - 2}
	if next(3) == 0 {
		i = [...]api.Inst{{Op: api.OpIn}, {Op: api.OpOut}, {Op: api.OpOut}, {Op: api.OpLw, B: i.B}, {Op: api.OpSw, B: i.B}, {Op: api.OpSb, B: i.B}}[next(6)]
		i.A, i.Imm = int(next(8)), int(next(10))
		if i.Op == api.OpLw || i.Op == api.OpSw {
			i.Imm = 4 * int(next(3))
		}
	}
	for range 3 {
		if w, errno := isa.Encode(i); errno == api.OK {
			return w
		}
		if i.B != 0 {
			i.B = 0
		} else {
			i.A, i.Imm = 0, 0
		}
	}
	return next(1<<31) * 2
}

// anyBoard is one in the midst of things, to which nothing came yet from outside.
func anyBoard(t *testing.T, next func(uint32) uint32) *Board {
	frames, sectors := 1+int(next(6)), 1+int(next(3))
	b := made(t, frames, sectors)
	for at := 0; at < 64*frames; at += 4 {
		lay(t, b, at, anyWord(next, frames))
	}
	for sector := range sectors {
		b.Write(sector, counted(int(next(256)), int(next(65))))
	}
	s := &b.state
	for n := range s.Regs {
		s.Regs[n] = anyNumber(next, frames)
	}
	s.Pc, s.Epc, s.Cause, s.Vec = 4*next(uint32(16*frames)), anyNumber(next, frames), next(20), 4*next(uint32(16*frames))
	if next(8) == 0 {
		s.Pc = anyNumber(next, frames)
	}
	s.Table = 4 * next(uint32(16*frames))
	if next(5) == 0 {
		s.Table = anyNumber(next, frames)
	}
	s.Super, s.Prev, s.Enabled = next(3) > 0, next(2) > 0, next(3) == 0
	if next(3) == 0 && s.Pc%4 == 0 && b.has(s.Pc, 4) {
		anyCommand(t, next, b)
	}
	for range next(7) {
		b.tlb.Fill(api.Entry{Page: next(16), Frame: next(uint32(frames)), Write: next(3) > 0})
	}
	b.lines.SetAlarm(next(20))
	b.lines.SetMask(next(16))
	b.lines.Raise(2, next(4) == 0)
	b.answers = [asks]uint32{next(3), next(70)}
	b.now = int64(next(20))
	return b
}

// anyCommand lets a board be at a command of the disk or the net that may come to something.
func anyCommand(t *testing.T, next func(uint32) uint32, b *Board) {
	frames, sectors := uint32(b.Form().Frames), uint32(b.Form().Sectors)
	port, at, a := 5+2*next(3), next(64*frames-12), next(8)
	command := []uint32{next(64 * frames), next(24)}
	if port == 5 {
		command = []uint32{next(sectors + 1), 64 * next(frames+1), next(5) / 2}
	}
	lay(t, b, int(at), command...)
	lay(t, b, int(b.state.Pc), encoded(t, inst(api.OpOut, int(a), 0, int(port))))
	b.state.Regs[a] = at
}

// tally counts what came about in runs, so that a run in which it did not is found.
type tally map[string]int

func (c tally) count(x api.Stepped, touches string) {
	c[[...]string{"none", "trap", "interrupt", "ran", "halted"}[x.Kind]+" "+strconv.Itoa(int(x.Cause))]++
	if x.Kind != api.StepRan {
		return
	}
	i, _ := isa.Decode(x.Word)
	name, _ := isa.Name(i.Op)
	if i.Op == api.OpIn || i.Op == api.OpOut {
		name += " " + strconv.Itoa(i.Imm)
	}
	c[name]++
	if strings.Contains(touches, "<table") {
		c["walk"]++
	}
	if i.Op == api.OpOut && i.Imm >= 5 {
		for _, put := range []string{"<s", "<p0", "<m", "s0<"} {
			if strings.Contains(touches, put) {
				c[name+put]++
			}
		}
	}
}

// P11.1: boards in the midst of things do what the ones by hand do, step by step.
func TestStepsByHand(t *testing.T) {
	next, seen := steady(12), tally{}
	for range 3000 {
		b := anyBoard(t, next)
		h := handOf(b)
		for range 12 {
			if next(4) == 0 {
				typed := counted(int(next(256)), int(next(4)))
				b.Type(typed)
				h.queue = append(h.queue, typed...)
			}
			if next(5) == 0 {
				packet := counted(int(next(256)), int(next(20)))
				b.Send(packet)
				h.packets = append(h.packets, packet)
			}
			x, errno := b.Step()
			touches := text(x.Touches)
			want, wanted := h.step()
			x.Touches = nil
			if errno != api.OK || x.Kind != want.Kind || x.Pc != want.Pc || x.Word != want.Word || x.Cause != want.Cause || touches != wanted {
				t.Fatalf("Step is %v, %v:\n%s\nnot %v:\n%s", x, errno, touches, want, wanted)
			}
			if what := h.differs(b); what != "" {
				t.Fatalf("behind %v is another one: %s", x, what)
			}
			seen.count(x, touches)
		}
	}
	for _, what := range []string{
		"trap 1", "trap 2", "trap 3", "trap 4", "trap 5", "trap 6", "trap 8", "interrupt 16", "interrupt 17", "interrupt 18", "interrupt 19",
		"ran 0", "halted 0", "walk", "lw", "sw", "lb", "sb", "flush", "in 0", "in 1", "in 2", "in 3", "in 4", "in 5", "in 6", "in 7", "in 8", "in 9",
		"out 0", "out 1", "out 2", "out 3", "out 4", "out 5", "out 6", "out 7", "out 8", "out 9", "out 5<s", "out 5s0<", "out 7<p0", "out 9<m",
	} {
		if seen[what] < 5 {
			t.Errorf("%s came about %d times", what, seen[what])
		}
	}
}
