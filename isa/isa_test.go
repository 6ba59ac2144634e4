package isa

import (
	"math"
	"strconv"
	"strings"
	"testing"

	"pomander/api"
)

// chapter is the chapter's table, by itself: its n-th row is the Op n.
var chapter = []struct {
	op         api.Op
	name, uses string
}{
	{},
	{api.OpHalt, "halt", "-"},
	{api.OpLui, "lui", "A, Imm"},
	{api.OpAddi, "addi", "A, B, Imm"},
	{api.OpAdd, "add", "A, B"},
	{api.OpSub, "sub", "A, B"},
	{api.OpMul, "mul", "A, B"},
	{api.OpAnd, "and", "A, B"},
	{api.OpOr, "or", "A, B"},
	{api.OpXor, "xor", "A, B"},
	{api.OpShl, "shl", "A, B"},
	{api.OpShr, "shr", "A, B"},
	{api.OpSlt, "slt", "A, B"},
	{api.OpLw, "lw", "A, B, Imm"},
	{api.OpSw, "sw", "A, B, Imm"},
	{api.OpLb, "lb", "A, B, Imm"},
	{api.OpSb, "sb", "A, B, Imm"},
	{api.OpBeq, "beq", "A, B, Imm"},
	{api.OpBne, "bne", "A, B, Imm"},
	{api.OpBlt, "blt", "A, B, Imm"},
	{api.OpJal, "jal", "A, Imm"},
	{api.OpJalr, "jalr", "A, B"},
	{api.OpIn, "in", "A, Imm"},
	{api.OpOut, "out", "A, Imm"},
	{api.OpCall, "call", "-"},
	{api.OpBack, "back", "-"},
	{api.OpGet, "get", "A, Imm"},
	{api.OpSet, "set", "A, Imm"},
	{api.OpFlush, "flush", "-"},
}

const lastOp = 28

// edgesOfImm are numbers around which a word's lower half, or its sign, turns over.
var edgesOfImm = []int{-32768, -32767, -256, -255, -129, -128, -127, -2, -1, 0, 1, 2, 9, 10, 127, 128, 255, 256, 32766, 32767}

// noNumbers are numbers that are no register, no Imm; some of them are one when they are cut to fewer bits.
var noNumbers = []int{-32769, 32768, 65535, 65536, 1 << 20, 1 << 24, 1<<31 - 1, 1 << 31, 1<<32 - 1, 1 << 32, 1<<32 + 1, -1 << 16, -1 << 31, -1 << 32, math.MaxInt, math.MinInt, math.MinInt + 1}

// byHand is what the chapter says of an Op's number, a register's, a register's, and the word's lower half.
func byHand(op, a, b, low int) (api.Inst, bool) {
	imm := low
	if imm >= 32768 {
		imm -= 65536
	}
	if op < 1 || op > lastOp || a > 7 || b > 7 {
		return api.Inst{}, false
	}
	uses := chapter[op].uses
	if !strings.Contains(uses, "A") && a != 0 || !strings.Contains(uses, "B") && b != 0 || !strings.Contains(uses, "Imm") && imm != 0 {
		return api.Inst{}, false
	}
	return api.Inst{Op: chapter[op].op, A: a, B: b, Imm: imm}, true
}

// textByHand fills in what the chapter's row says.
func textByHand(i api.Inst) string {
	line := chapter[i.Op].uses
	if line == "-" {
		return chapter[i.Op].name
	}
	line = strings.Replace(line, "A", "r"+strconv.Itoa(i.A), 1)
	line = strings.Replace(line, "B", "r"+strconv.Itoa(i.B), 1)
	line = strings.Replace(line, "Imm", strconv.Itoa(i.Imm), 1)
	return chapter[i.Op].name + " " + line
}

// each hands on all instructions whose Imm is one of these.
func each(imms []int, do func(api.Inst)) {
	for op := 1; op <= lastOp; op++ {
		for a := range 8 {
			for b := range 8 {
				for _, imm := range imms {
					if i, is := byHand(op, a, b, imm&65535); is {
						do(i)
					}
				}
			}
		}
	}
}

// word is the word of numbers that fit their room.
func word(op, a, b, low int) uint32 {
	return uint32(op*1<<24 + a*1<<20 + b*1<<16 + low)
}

func decodes(t *testing.T, w uint32, wanted api.Inst, is bool) {
	t.Helper()
	if got, ok := Decode(w); got != wanted || ok != is {
		t.Fatalf("Decode(%08x) is %v, %t, not %v, %t", w, got, ok, wanted, is)
	}
}

func refused(t *testing.T, i api.Inst) {
	t.Helper()
	if w, errno := Encode(i); w != 0 || errno != api.ErrArg {
		t.Errorf("Encode(%v) is %08x, %v", i, w, errno)
	}
	if text, errno := Text(i); text != "" || errno != api.ErrArg {
		t.Errorf("Text(%v) is %q, %v", i, text, errno)
	}
}

func TestByRow(t *testing.T) { // P4.1, P4.2
	for _, row := range []struct {
		w    uint32
		i    api.Inst
		text string
	}{
		{0x01000000, api.Inst{Op: api.OpHalt}, "halt"},
		{0x02700001, api.Inst{Op: api.OpLui, A: 7, Imm: 1}, "lui r7, 1"},
		{0x0312fffe, api.Inst{Op: api.OpAddi, A: 1, B: 2, Imm: -2}, "addi r1, r2, -2"},
		{0x03000000, api.Inst{Op: api.OpAddi}, "addi r0, r0, 0"},
		{0x04770000, api.Inst{Op: api.OpAdd, A: 7, B: 7}, "add r7, r7"},
		{0x05100000, api.Inst{Op: api.OpSub, A: 1}, "sub r1, r0"},
		{0x06010000, api.Inst{Op: api.OpMul, B: 1}, "mul r0, r1"},
		{0x07120000, api.Inst{Op: api.OpAnd, A: 1, B: 2}, "and r1, r2"},
		{0x08210000, api.Inst{Op: api.OpOr, A: 2, B: 1}, "or r2, r1"},
		{0x09330000, api.Inst{Op: api.OpXor, A: 3, B: 3}, "xor r3, r3"},
		{0x0a450000, api.Inst{Op: api.OpShl, A: 4, B: 5}, "shl r4, r5"},
		{0x0b540000, api.Inst{Op: api.OpShr, A: 5, B: 4}, "shr r5, r4"},
		{0x0c670000, api.Inst{Op: api.OpSlt, A: 6, B: 7}, "slt r6, r7"},
		{0x0d127fff, api.Inst{Op: api.OpLw, A: 1, B: 2, Imm: 32767}, "lw r1, r2, 32767"},
		{0x0e128000, api.Inst{Op: api.OpSw, A: 1, B: 2, Imm: -32768}, "sw r1, r2, -32768"},
		{0x0f21ffff, api.Inst{Op: api.OpLb, A: 2, B: 1, Imm: -1}, "lb r2, r1, -1"},
		{0x10210010, api.Inst{Op: api.OpSb, A: 2, B: 1, Imm: 16}, "sb r2, r1, 16"},
		{0x11120002, api.Inst{Op: api.OpBeq, A: 1, B: 2, Imm: 2}, "beq r1, r2, 2"},
		{0x1212fffc, api.Inst{Op: api.OpBne, A: 1, B: 2, Imm: -4}, "bne r1, r2, -4"},
		{0x13210100, api.Inst{Op: api.OpBlt, A: 2, B: 1, Imm: 256}, "blt r2, r1, 256"},
		{0x14000000, api.Inst{Op: api.OpJal}, "jal r0, 0"},
		{0x15670000, api.Inst{Op: api.OpJalr, A: 6, B: 7}, "jalr r6, r7"},
		{0x16100000, api.Inst{Op: api.OpIn, A: 1}, "in r1, 0"},
		{0x17100001, api.Inst{Op: api.OpOut, A: 1, Imm: 1}, "out r1, 1"},
		{0x18000000, api.Inst{Op: api.OpCall}, "call"},
		{0x19000000, api.Inst{Op: api.OpBack}, "back"},
		{0x1a300005, api.Inst{Op: api.OpGet, A: 3, Imm: 5}, "get r3, 5"},
		{0x1b300004, api.Inst{Op: api.OpSet, A: 3, Imm: 4}, "set r3, 4"},
		{0x1b30ff00, api.Inst{Op: api.OpSet, A: 3, Imm: -256}, "set r3, -256"},
		{0x1c000000, api.Inst{Op: api.OpFlush}, "flush"},
	} {
		decodes(t, row.w, row.i, true)
		if w, errno := Encode(row.i); w != row.w || errno != api.OK {
			t.Errorf("Encode(%v) is %08x, %v, not %08x", row.i, w, errno, row.w)
		}
		if text, errno := Text(row.i); text != row.text || errno != api.OK {
			t.Errorf("Text(%v) is %q, %v, not %q", row.i, text, errno, row.text)
		}
	}
}

func TestDecodeOfNone(t *testing.T) { // P4.1
	for _, w := range []uint32{
		0, 1, 0x0000ffff, 0x00ff0000, // no Op
		0x1d000000, 0x80000000, 0x81000000, 0xff000000, 0xffffffff,
		0x18000001, 0x1800ffff, 0x18100000, 0x18010000, // an Op that uses nothing
		0x01000001, 0x01700000, 0x01070000, 0x19008000, 0x1c100000,
		0x04810000, 0x04180000, 0x04f00000, 0x040f0000, 0x04880000, // no register
		0x03800000, 0x03080000, 0x02800000, 0x14f00000,
		0x04120001, 0x0412ffff, 0x15128000, // an Op that uses no Imm
		0x02010000, 0x02180000, 0x14010000, 0x16070000, 0x17010001, 0x1a110000, 0x1b070000, // no B
	} {
		decodes(t, w, api.Inst{}, false)
	}
}

func TestDecodeOfAllOpsAndRegisters(t *testing.T) { // P4.1
	for op := range 256 {
		for a := range 16 {
			for b := range 16 {
				for _, imm := range edgesOfImm {
					low := imm & 65535
					wanted, is := byHand(op, a, b, low)
					decodes(t, word(op, a, b, low), wanted, is)
				}
			}
		}
	}
}

func TestDecodeOfEachImm(t *testing.T) { // P4.1
	for op := range 32 {
		for low := range 65536 {
			wanted, is := byHand(op, 0, 0, low)
			decodes(t, word(op, 0, 0, low), wanted, is)
		}
	}
}

func TestEncodeOfEach(t *testing.T) { // P4.1
	each(edgesOfImm, func(i api.Inst) {
		wanted := word(int(i.Op), i.A, i.B, i.Imm&65535)
		if w, errno := Encode(i); w != wanted || errno != api.OK {
			t.Fatalf("Encode(%v) is %08x, %v, not %08x", i, w, errno, wanted)
		}
	})
}

func TestNoOpIsRefused(t *testing.T) { // P4.1, P4.2
	for _, op := range append([]int{0, -1, -28, lastOp + 1, 30, 255, 256, 257}, noNumbers...) {
		refused(t, api.Inst{Op: api.Op(op)})
		refused(t, api.Inst{Op: api.Op(op), A: 1, B: 2, Imm: 3})
		if name, ok := Name(api.Op(op)); name != "" || ok {
			t.Errorf("Name(%d) is %q, %t", op, name, ok)
		}
	}
}

// TestNoPartIsRefused gives each part of each Op, used or not, what it can't be; the other parts may be.
func TestNoPartIsRefused(t *testing.T) { // P4.1, P4.2
	noRegisters := append([]int{-1, -7, -8, 8, 9, 15, 16, 17, 255, 256, 32767, -32768}, noNumbers...)
	for op := 1; op <= lastOp; op++ {
		whole := api.Inst{Op: api.Op(op)}
		for _, wrong := range noRegisters {
			a, b := whole, whole
			a.A, b.B = wrong, wrong
			refused(t, a)
			refused(t, b)
		}
		for _, wrong := range noNumbers {
			imm := whole
			imm.Imm = wrong
			refused(t, imm)
		}
	}
}

func TestWhatIsNotUsedIsRefused(t *testing.T) { // P4.1, P4.2
	for op := 1; op <= lastOp; op++ {
		whole, uses := api.Inst{Op: api.Op(op)}, chapter[op].uses
		for _, n := range []int{1, 2, 7} {
			a, b := whole, whole
			a.A, b.B = n, n
			if !strings.Contains(uses, "A") {
				refused(t, a)
			}
			if !strings.Contains(uses, "B") {
				refused(t, b)
			}
		}
		for _, n := range edgesOfImm {
			imm := whole
			imm.Imm = n
			if n != 0 && !strings.Contains(uses, "Imm") {
				refused(t, imm)
			}
		}
	}
}

func TestNameAndNumber(t *testing.T) { // P4.2
	for n := 1; n <= lastOp; n++ {
		row := chapter[n]
		if int(row.op) != n {
			t.Errorf("%s is %d, not %d", row.name, row.op, n)
		}
		if name, ok := Name(row.op); name != row.name || !ok {
			t.Errorf("Name(%d) is %q, %t, not %q", n, name, ok, row.name)
		}
		if op, ok := Number(row.name); op != row.op || !ok {
			t.Errorf("Number(%q) is %d, %t, not %d", row.name, op, ok, n)
		}
	}
}

func TestNumberOfNone(t *testing.T) { // P4.2
	names := []string{
		"", " ", "-", "none", "r1", "0", "1", "nop", "\x00", "\xff\xfe", "hält", "add\x00", "addi r1, r2, -2",
		strings.Repeat("a", 1<<16), strings.Repeat("halt", 1000),
	}
	for n := 1; n <= lastOp; n++ {
		name := chapter[n].name
		names = append(names, strings.ToUpper(name), strings.ToUpper(name[:1])+name[1:], name+" ", " "+name, name+"\n", name+"x", name+name, strconv.Itoa(n))
		if short := name[:len(name)-1]; short != "add" && short != "jal" { // these two are names themselves
			names = append(names, short)
		}
	}
	for _, name := range names {
		if op, ok := Number(name); op != api.OpNone || ok {
			t.Errorf("Number(%q) is %d, %t", name, op, ok)
		}
	}
}

func TestTextOfEach(t *testing.T) { // P4.2
	each(edgesOfImm, func(i api.Inst) {
		wanted := textByHand(i)
		if text, errno := Text(i); text != wanted || errno != api.OK {
			t.Fatalf("Text(%v) is %q, %v, not %q", i, text, errno, wanted)
		}
	})
}

func TestDecodeOfEncodeIsTheInstruction(t *testing.T) { // P4.3
	each(edgesOfImm, func(i api.Inst) {
		w, errno := Encode(i)
		if got, ok := Decode(w); got != i || !ok || errno != api.OK {
			t.Fatalf("Decode of Encode(%v) is %v, %t, %v", i, got, ok, errno)
		}
	})
}

func TestEncodeOfDecodeIsTheWord(t *testing.T) { // P4.3
	instructions := 0
	x := uint32(12345)
	for n := range 1 << 21 {
		x = x*1664525 + 1013904223
		w := x ^ x>>16
		if n%2 == 0 {
			w &= 0x1f77ffff // so that every second one has a chance to be an instruction
		}
		i, ok := Decode(w)
		if !ok {
			continue
		}
		instructions++
		if got, errno := Encode(i); got != w || errno != api.OK {
			t.Fatalf("Encode of Decode(%08x) is %08x, %v", w, got, errno)
		}
	}
	if instructions < 1000 {
		t.Errorf("just %d of the words are instructions", instructions)
	}
}

func TestUnlikeOnesAreUnlike(t *testing.T) { // P4.3
	words, texts := map[uint32]api.Inst{}, map[string]api.Inst{}
	each(edgesOfImm, func(i api.Inst) {
		w, _ := Encode(i)
		text, _ := Text(i)
		if other, known := words[w]; known && other != i {
			t.Fatalf("%v and %v have the word %08x", i, other, w)
		}
		if other, known := texts[text]; known && other != i {
			t.Fatalf("%v and %v have the text %q", i, other, text)
		}
		words[w], texts[text] = i, i
	})
	if len(words) != len(texts) || len(words) < 28 {
		t.Errorf("%d words, %d texts", len(words), len(texts))
	}
}
