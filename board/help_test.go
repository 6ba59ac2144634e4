package board

import (
	"strconv"
	"strings"
	"testing"

	"pomander/api"
	"pomander/cpu"
	"pomander/isa"
	"pomander/words"
)

// Parts of what steps tell, as texts.
const (
	always      = "?<mode,mask,alarm,pc"
	trapTouches = "epc<pc cause< mode<mode ?<vec pc<vec"
)

// inst makes an instruction of its parts.
func inst(op api.Op, a, b, imm int) api.Inst { return api.Inst{Op: op, A: a, B: b, Imm: imm} }

// encoded is an instruction's word.
func encoded(t *testing.T, i api.Inst) uint32 {
	t.Helper()
	w, errno := isa.Encode(i)
	if errno != api.OK {
		t.Fatalf("%v is no instruction", i)
	}
	return w
}

// made makes a board.
func made(t *testing.T, frames, sectors int) *Board {
	t.Helper()
	b, errno := New(api.Form{Frames: frames, Sectors: sectors})
	if b == nil || errno != api.OK {
		t.Fatalf("New of %d, %d is %v, %v", frames, sectors, b, errno)
	}
	return b
}

// lay puts words into memory.
func lay(t *testing.T, b *Board, at int, list ...uint32) {
	t.Helper()
	for n, w := range list {
		four := words.Bytes(w)
		if errno := b.Load(at+4*n, four[:]); errno != api.OK {
			t.Fatalf("Load of a word at %d is %v", at+4*n, errno)
		}
	}
}

// counted are so many bytes, that rise from a first one.
func counted(first, many int) []byte {
	list := make([]byte, many)
	for n := range list {
		list[n] = byte(first + n)
	}
	return list
}

// steady tells numbers that hang on the seed alone.
func steady(seed uint32) func(below uint32) uint32 {
	return func(below uint32) uint32 {
		seed = seed*1664525 + 1013904223
		return uint32(uint64(seed) * uint64(below) >> 32)
	}
}

// letters of places; those behind which a number stands have it in numbered.
var (
	letters = map[api.PlaceKind]string{
		api.PlaceNone: "?", api.PlacePc: "pc", api.PlaceEpc: "epc", api.PlaceCause: "cause", api.PlaceVec: "vec",
		api.PlaceTable: "table", api.PlaceMode: "mode", api.PlaceMask: "mask", api.PlaceAlarm: "alarm",
	}
	numbered = map[api.PlaceKind]string{
		api.PlaceReg: "r", api.PlaceMem: "m", api.PlaceTlb: "t", api.PlaceSector: "s", api.PlaceIn: "in",
		api.PlaceOut: "out", api.PlacePacket: "p", api.PlaceSent: "sent", api.PlaceAsk: "ask",
	}
)

// named tells a place.
func named(p api.Place) string {
	if name, is := numbered[p.Kind]; is {
		return name + strconv.Itoa(p.N)
	}
	if name, is := letters[p.Kind]; is && p.N == 0 {
		return name
	}
	return "a wrong place"
}

// text tells touches, those that decide as what ? gets.
func text(touches []api.Touch) string {
	var told []string
	for _, touch := range touches {
		var from []string
		for _, p := range touch.From {
			from = append(from, named(p))
		}
		told = append(told, named(touch.To)+"<"+strings.Join(from, ","))
	}
	return strings.Join(told, " ")
}

// mem tells n bytes of memory, as those of one touch.
func mem(at, n int) string {
	var all []string
	for behind := range n {
		all = append(all, "m"+strconv.Itoa(at+behind))
	}
	return strings.Join(all, ",")
}

// moved tells n touches, byte by byte.
func moved(to string, toAt int, from string, fromAt, n int) string {
	var all []string
	for behind := range n {
		all = append(all, to+strconv.Itoa(toAt+behind)+"<"+from+strconv.Itoa(fromAt+behind))
	}
	return strings.Join(all, " ")
}

// joined tells texts, the empty ones left out.
func joined(texts ...string) string {
	var all []string
	for _, one := range texts {
		if one != "" {
			all = append(all, one)
		}
	}
	return strings.Join(all, " ")
}

// stepIs is what a step is to be: its touches as a text, and what is otherwise on the board behind it, beside how many steps were done, and, where it ran, that the pc is 4 more, or else what a trap does.
type stepIs struct {
	kind        api.StepKind
	word, cause uint32
	touches     string
	changes     func(b *Board)
}

// steps fails where a step of the board is not as it is to be.
func (is stepIs) steps(t *testing.T, name string, b *Board) {
	t.Helper()
	pc, want := b.State().Pc, b.Copy()
	want.now++
	if is.kind == api.StepRan {
		want.state.Pc += 4
	} else {
		want.state = cpu.Trap(want.state, is.cause)
	}
	if is.changes != nil {
		is.changes(want)
	}
	x, errno := b.Step()
	if errno != api.OK || x.Kind != is.kind || x.Pc != pc || x.Word != is.word || x.Cause != is.cause {
		t.Errorf("%s: Step is %d at %d, %#x, cause %d, %v, not %d at %d, %#x, cause %d", name, x.Kind, x.Pc, x.Word, x.Cause, errno, is.kind, pc, is.word, is.cause)
	}
	if got := text(x.Touches); got != is.touches {
		t.Errorf("%s: touches are\n%q, not\n%q", name, got, is.touches)
	}
	if !Same(b, want) {
		t.Errorf("%s: behind the step the board is not as it is to be:\n%s\n%s", name, standing(b), standing(want))
	}
}

// standing tells what is small of a board.
func standing(b *Board) string {
	var l []string
	for _, r := range b.state.Regs {
		l = append(l, strconv.FormatUint(uint64(r), 10))
	}
	for _, r := range []uint32{b.state.Pc, b.state.Epc, b.state.Cause, b.lines.Alarm(), b.lines.Mask(), b.answers[0], b.answers[1]} {
		l = append(l, strconv.FormatUint(uint64(r), 10))
	}
	l = append(l, strconv.Itoa(int(cpu.Status(b.state))), strconv.FormatInt(b.now, 10), strconv.FormatBool(b.halted))
	l = append(l, strconv.FormatBool(b.lines.Raised(2)), strconv.FormatBool(b.lines.Raised(3)), strconv.Itoa(b.tlb.Next()))
	return strings.Join(l, " ")
}
