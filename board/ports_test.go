package board

import (
	"strconv"
	"testing"

	"pomander/api"
)

// fetched is what the fetch tells at 0, of the higher privilege.
const fetched = always + " ?<m0,m1,m2,m3"

// P11.1: what each port tells, and what comes of it.
func TestIn(t *testing.T) {
	typed := func(b *Board) { b.Type([]byte("ab")) }
	all := func(b *Board) {
		b.answers = [asks]uint32{5, 6}
		b.lines.Raise(2, true)
		b.Send([]byte("x"))
		typed(b)
		b.lines.SetMask(10)
		b.now = 1<<32 + 9
	}
	take := func(b *Board) { b.lines.Take() }
	for _, row := range []struct {
		name    string
		port    int
		ready   func(b *Board)
		value   uint32
		from    string
		changes func(b *Board)
	}{
		{"a byte", 0, typed, 'a', "in0", take},
		{"the second byte", 0, func(b *Board) { typed(b); take(b) }, 'b', "in1", take},
		{"a byte typed later", 0, func(b *Board) { typed(b); take(b); take(b); b.Type([]byte{255}) }, 255, "in2", take},
		{"a nought", 0, func(b *Board) { b.Type([]byte{0}) }, 0, "in0", take},
		{"no byte", 0, func(b *Board) {}, 4294967295, "", nil},
		{"no byte any more", 0, func(b *Board) { typed(b); take(b); take(b) }, 4294967295, "", nil},
		{"how many", 1, typed, 2, "", nil},
		{"how many, of none", 1, func(b *Board) {}, 0, "", nil},
		{"how many, of all", 1, func(b *Board) { b.Type(make([]byte, 256)) }, 256, "", nil},
		{"the time", 2, func(b *Board) { b.now = 7 }, 7, "", nil},
		{"the time, at first", 2, func(b *Board) {}, 0, "", nil},
		{"the time, above words", 2, all, 9, "", nil},
		{"port 3", 3, func(b *Board) { b.lines.SetAlarm(7) }, 0, "", nil},
		{"the mask", 4, all, 10, "mask", nil},
		{"the mask, at first", 4, func(b *Board) {}, 0, "mask", nil},
		{"port 5", 5, all, 0, "", nil},
		{"the disk's answer", 6, all, 5, "ask0", func(b *Board) { b.lines.Raise(2, false) }},
		{"the disk's answer, at first", 6, func(b *Board) {}, 0, "ask0", nil},
		{"port 7", 7, all, 0, "", nil},
		{"the net's answer", 8, all, 6, "ask1", nil},
		{"the net's answer, at first", 8, func(b *Board) {}, 0, "ask1", nil},
		{"port 9", 9, all, 0, "", nil},
		{"port 10", 10, all, 0, "", nil},
		{"port -1", -1, all, 0, "", nil},
		{"port 32767", 32767, all, 0, "", nil},
		{"port -32768", -32768, all, 0, "", nil},
	} {
		b, w := made(t, 1, 1), encoded(t, inst(api.OpIn, 3, 0, row.port))
		lay(t, b, 0, w)
		b.state.Regs[3] = 99
		row.ready(b)
		is := stepIs{kind: api.StepRan, word: w, touches: joined(fetched, "pc<pc r3<"+row.from)}
		is.changes = func(b *Board) {
			b.state.Regs[3] = row.value
			if row.changes != nil {
				row.changes(b)
			}
		}
		is.steps(t, row.name, b)
	}
}

// P11.1: what is done by ports that need no words in memory, and by those beyond.
func TestOut(t *testing.T) {
	for _, row := range []struct {
		name    string
		port    int
		value   uint32
		touches string
		changes func(b *Board)
	}{
		{"a byte", 1, 'a', "pc<pc out0<r1", func(b *Board) { b.lines.Tell('a') }},
		{"a word's lowest byte", 1, 0x12345678, "pc<pc out0<r1", func(b *Board) { b.lines.Tell(0x78) }},
		{"the alarm", 3, 0x12345678, "?<r1 pc<pc alarm<r1", func(b *Board) { b.lines.SetAlarm(0x12345678) }},
		{"no alarm", 3, 0, "?<r1 pc<pc alarm<r1", func(b *Board) { b.lines.SetAlarm(0) }},
		{"the mask", 4, 6, "?<r1 pc<pc mask<r1", func(b *Board) { b.lines.SetMask(6) }},
		{"the mask of a greater word", 4, 0xfffffffa, "?<r1 pc<pc mask<r1", func(b *Board) { b.lines.SetMask(10) }},
		{"the mask of 16", 4, 16, "?<r1 pc<pc mask<r1", func(b *Board) { b.lines.SetMask(0) }},
		{"port 0", 0, 64, "?<r1 pc<pc", nil},
		{"port 2", 2, 64, "?<r1 pc<pc", nil},
		{"port 6", 6, 64, "?<r1 pc<pc", nil},
		{"port 8", 8, 64, "?<r1 pc<pc", nil},
		{"port 10", 10, 64, "?<r1 pc<pc", nil},
		{"port -1", -1, 64, "?<r1 pc<pc", nil},
		{"port 32767", 32767, 64, "?<r1 pc<pc", nil},
		{"port -32768", -32768, 64, "?<r1 pc<pc", nil},
	} {
		b, w := made(t, 2, 1), encoded(t, inst(api.OpOut, 1, 0, row.port))
		lay(t, b, 0, w)
		lay(t, b, 64, 0, 64, 0)
		b.state.Regs[1] = row.value
		b.lines.SetAlarm(3)
		b.lines.SetMask(3)
		b.lines.Raise(2, true)
		b.Type([]byte("x"))
		stepIs{kind: api.StepRan, word: w, touches: joined(fetched, row.touches), changes: row.changes}.steps(t, row.name, b)
	}
}

// P11.1: bytes that are told are numbered.
func TestToldIsNumbered(t *testing.T) {
	b, w := made(t, 1, 1), encoded(t, inst(api.OpOut, 1, 0, 1))
	lay(t, b, 0, w, w, w)
	for n := range 3 {
		b.state.Regs[1] = uint32('a' + n)
		at := 4 * n
		is := stepIs{kind: api.StepRan, word: w, changes: func(b *Board) { b.lines.Tell(byte('a' + n)) }}
		is.touches = joined(always, "?<"+mem(at, 4), "pc<pc", "out"+strconv.Itoa(n)+"<r1")
		is.steps(t, "a byte more", b)
	}
	if string(b.Told()) != "abc" {
		t.Errorf("Told is %v", b.Told())
	}
}

// commandBoard has 4 frames of rising bytes, 3 sectors of others, an out to the port at 0, and that value for it.
func commandBoard(t *testing.T, port int, at uint32, command ...uint32) *Board {
	t.Helper()
	b := made(t, 4, 3)
	b.Load(0, counted(1, 256))
	for sector := range 3 {
		b.Write(sector, counted(200+64*sector, 64))
	}
	lay(t, b, 0, encoded(t, inst(api.OpOut, 1, 0, port)))
	if at < 256 {
		for n, w := range command {
			if int(at)+4*n+4 <= 256 {
				lay(t, b, int(at)+4*n, w)
			}
		}
	}
	b.state.Regs[1] = at
	b.answers = [asks]uint32{70, 80}
	return b
}

// commands fails where a command is not done as it is to be: words tells how many bytes of its words are in memory from at on, puts what is told of the bytes that are put.
func commands(t *testing.T, name string, b *Board, words, puts, ask string, changes func(b *Board)) {
	t.Helper()
	if words != "" {
		words = "?<" + words
	}
	touches := joined(fetched, "?<r1 pc<pc", words, puts, ask+"<")
	stepIs{kind: api.StepRan, word: b.word(0), touches: touches, changes: changes}.steps(t, name, b)
}

// P11.1: sectors that are moved to memory and back.
func TestDiskCommand(t *testing.T) {
	for _, row := range []struct {
		name                string
		at                  uint32
		sector, address, to uint32
	}{
		{"from the disk", 64, 1, 128, 0},
		{"from the last sector to the last frame", 64, 2, 192, 0},
		{"from the first sector to the first frame", 64, 0, 0, 0},
		{"over the command", 64, 1, 64, 0},
		{"to the disk", 64, 1, 128, 1},
		{"to the last sector", 64, 2, 192, 1},
		{"to the first sector, the command with it", 64, 0, 64, 1},
		{"by a command that ends memory", 244, 1, 128, 0},
		{"by a command at no multiple of 4", 65, 1, 128, 0},
		{"by another one", 67, 2, 128, 1},
		{"by a command over two frames", 122, 0, 192, 1},
	} {
		for _, up := range []bool{false, true} {
			b := commandBoard(t, 5, row.at, row.sector, row.address, row.to)
			b.lines.Raise(2, up)
			memory, sector := int(row.address), int(64*row.sector)
			puts := moved("m", memory, "s", sector, 64)
			if row.to == 1 {
				puts = moved("s", sector, "m", memory, 64)
			}
			commands(t, row.name, b, mem(int(row.at), 12), puts, "ask0", func(b *Board) {
				if row.to == 1 {
					b.Write(int(row.sector), b.Memory()[memory:memory+64])
				} else {
					b.Load(memory, b.Disk()[sector:sector+64])
				}
				b.answers[0] = 0
				b.lines.Raise(2, true)
			})
		}
	}
}

// P11.1: commands of the disk that come to nothing but an answer of 1.
func TestDiskCommandIsRefused(t *testing.T) {
	for _, row := range []struct {
		name                string
		at                  uint32
		sector, address, to uint32
		words               string
	}{
		{"the sector 3", 64, 3, 128, 0, mem(64, 12)},
		{"the sector 32", 64, 32, 128, 1, mem(64, 12)},
		{"the sector 4294967295", 64, 4294967295, 128, 0, mem(64, 12)},
		{"the address 1", 64, 1, 1, 0, mem(64, 12)},
		{"the address 63", 64, 1, 63, 1, mem(64, 12)},
		{"the address 132", 64, 1, 132, 0, mem(64, 12)},
		{"the address 96", 64, 1, 96, 1, mem(64, 12)},
		{"the address 193", 64, 1, 193, 0, mem(64, 12)},
		{"the address 256", 64, 1, 256, 0, mem(64, 12)},
		{"the address 320", 64, 1, 320, 1, mem(64, 12)},
		{"the address 4294967232", 64, 1, 4294967232, 0, mem(64, 12)},
		{"the third word 2", 64, 1, 128, 2, mem(64, 12)},
		{"the third word 256", 64, 1, 128, 256, mem(64, 12)},
		{"the third word 4294967295", 64, 1, 128, 4294967295, mem(64, 12)},
		{"a command of 11 bytes in memory", 245, 1, 128, 0, mem(245, 8)},
		{"a command of 9 bytes in memory", 247, 1, 128, 0, mem(247, 8)},
		{"a command of 8 bytes in memory", 248, 1, 128, 0, mem(248, 8)},
		{"a command of 7 bytes in memory", 249, 1, 128, 0, mem(249, 4)},
		{"a command of 4 bytes in memory", 252, 1, 128, 0, mem(252, 4)},
		{"a command of 3 bytes in memory", 253, 1, 128, 0, ""},
		{"a command of 1 byte in memory", 255, 1, 128, 0, ""},
		{"a command at the end of memory", 256, 1, 128, 0, ""},
		{"a command beyond it", 1 << 31, 1, 128, 0, ""},
		{"a command that ends at 2^32", 4294967284, 1, 128, 0, ""},
		{"a command whose last word goes beyond 2^32", 4294967285, 1, 128, 0, ""},
		{"a command whose last word is at 2^32", 4294967288, 1, 128, 0, ""},
		{"a command whose last words are behind 2^32", 4294967292, 1, 128, 0, ""},
		{"a command at the last address of all", 4294967295, 1, 128, 0, ""},
	} {
		for _, up := range []bool{false, true} {
			b := commandBoard(t, 5, row.at, row.sector, row.address, row.to)
			b.lines.Raise(2, up)
			commands(t, row.name, b, row.words, "", "ask0", func(b *Board) {
				b.answers[0] = 1
				b.lines.Raise(2, true)
			})
		}
	}
}

// P11.1: an answer stays till the next command, the line till it is asked.
func TestDiskAnswerAndLine(t *testing.T) {
	b := made(t, 2, 1)
	for n, i := range []api.Inst{inst(api.OpOut, 1, 0, 5), inst(api.OpIn, 2, 0, 6), inst(api.OpIn, 3, 0, 6), inst(api.OpOut, 4, 0, 5), inst(api.OpIn, 5, 0, 6)} {
		lay(t, b, 4*n, encoded(t, i))
	}
	lay(t, b, 100, 0, 64, 2)
	lay(t, b, 112, 0, 64, 0)
	b.state.Regs[1], b.state.Regs[4] = 100, 112
	for n, up := range []bool{true, false, false, true, false} {
		if b.Step(); b.lines.Raised(2) != up {
			t.Errorf("behind the step %d the line is not %t", n, up)
		}
	}
	if b.state.Regs[2] != 1 || b.state.Regs[3] != 1 || b.state.Regs[5] != 0 {
		t.Errorf("the answers are %v", b.state.Regs)
	}
}

// P11.1: packets that are put into memory, whole or in part, and what becomes of the line 3.
func TestReceive(t *testing.T) {
	for _, row := range []struct {
		name            string
		at              uint32
		packets         []string
		address, length uint32
		put             string
	}{
		{"one that fits", 64, []string{"abc"}, 128, 64, "abc"},
		{"one that fits just so", 64, []string{"abc"}, 128, 3, "abc"},
		{"one that does not fit", 64, []string{"abc"}, 128, 2, "ab"},
		{"one of which nothing fits", 64, []string{"abc"}, 128, 0, ""},
		{"one without bytes", 64, []string{""}, 128, 8, ""},
		{"the first of two", 64, []string{"abc", "de"}, 128, 8, "abc"},
		{"up to the end of memory", 64, []string{"abc"}, 253, 3, "abc"},
		{"into all of memory", 64, []string{"abc"}, 0, 256, "abc"},
		{"at an odd address, over the command", 64, []string{"abcdef"}, 65, 5, "abcde"},
		{"nothing at the end of memory", 64, []string{"abc"}, 256, 0, ""},
		{"by a command that ends memory", 248, []string{"abc"}, 128, 3, "abc"},
		{"by a command at no multiple of 4", 67, []string{"abc"}, 128, 3, "abc"},
	} {
		b := commandBoard(t, 7, row.at, row.address, row.length)
		for _, packet := range row.packets {
			b.Send([]byte(packet))
		}
		puts := moved("m", int(row.address), "p", 0, len(row.put))
		commands(t, row.name, b, mem(int(row.at), 8), puts, "ask1", func(b *Board) {
			b.memory.Load(row.address, []byte(row.put))
			b.net.Take()
			b.lines.Raise(3, len(row.packets) > 1)
			b.answers[1] = uint32(len(row.put))
		})
	}
}

// P11.1: a packet of as many bytes as it may have; bytes are numbered over all packets, those that were lost included.
func TestReceiveIsNumbered(t *testing.T) {
	b := commandBoard(t, 7, 64, 128, 2)
	w := b.word(0)
	for n := range 4 {
		lay(t, b, 4*n, w)
	}
	b.Send([]byte("abc"))
	b.Send(nil)
	b.Send(counted(9, 64))
	for n, row := range []struct {
		length uint32
		puts   string
		put    []byte
	}{{2, "m128<p0 m129<p1", []byte("ab")}, {2, "", nil}, {128, moved("m", 128, "p", 3, 64), counted(9, 64)}} {
		lay(t, b, 68, row.length)
		touches := joined(always, "?<"+mem(4*n, 4), "?<r1 pc<pc", "?<"+mem(64, 8), row.puts, "ask1<")
		stepIs{kind: api.StepRan, word: w, touches: touches, changes: func(b *Board) {
			b.memory.Load(128, row.put)
			b.net.Take()
			b.lines.Raise(3, n < 2)
			b.answers[1] = uint32(len(row.put))
		}}.steps(t, "a packet more", b)
	}
	touches := joined(always, "?<"+mem(12, 4), "?<r1 pc<pc", "?<"+mem(64, 8), "ask1<")
	stepIs{kind: api.StepRan, word: w, touches: touches, changes: func(b *Board) { b.answers[1] = 4294967295 }}.steps(t, "none any more", b)
}

// P11.1: commands that take no packet.
func TestReceiveIsRefused(t *testing.T) {
	for _, row := range []struct {
		name            string
		at              uint32
		packets         int
		address, length uint32
		words           string
	}{
		{"none waits", 64, 0, 128, 8, mem(64, 8)},
		{"bytes beyond memory", 64, 1, 254, 3, mem(64, 8)},
		{"one byte at the end of memory", 64, 1, 256, 1, mem(64, 8)},
		{"one more than all of memory", 64, 1, 0, 257, mem(64, 8)},
		{"an address far beyond", 64, 1, 4294967295, 1, mem(64, 8)},
		{"a length far above", 64, 1, 128, 4294967295, mem(64, 8)},
		{"a sum that is no word", 64, 1, 128, 4294967232, mem(64, 8)},
		{"a sum that is no word, of two", 64, 2, 4294967295, 4294967295, mem(64, 8)},
		{"a command of 7 bytes in memory", 249, 1, 128, 8, mem(249, 4)},
		{"a command of 4 bytes in memory", 252, 1, 128, 8, mem(252, 4)},
		{"a command of 3 bytes in memory", 253, 1, 128, 8, ""},
		{"a command at the end of memory", 256, 1, 128, 8, ""},
		{"a command that ends at 2^32", 4294967288, 2, 128, 8, ""},
		{"a command whose last word goes beyond 2^32", 4294967289, 1, 128, 8, ""},
		{"a command whose last word is at 2^32", 4294967292, 1, 128, 8, ""},
		{"a command at the last address of all", 4294967295, 1, 128, 8, ""},
		{"none waits, and no word is in memory", 256, 0, 128, 8, ""},
	} {
		b := commandBoard(t, 7, row.at, row.address, row.length)
		for range row.packets {
			b.Send([]byte("a"))
		}
		commands(t, row.name, b, row.words, "", "ask1", func(b *Board) { b.answers[1] = 4294967295 })
		if b.net.Waits() != row.packets || b.lines.Raised(3) != (row.packets > 0) {
			t.Errorf("%s: %d wait, the line is %t", row.name, b.net.Waits(), b.lines.Raised(3))
		}
	}
}

// P11.1: packets that are sent.
func TestSendCommand(t *testing.T) {
	for _, row := range []struct {
		name            string
		at              uint32
		sent            []string
		first           int
		address, length uint32
	}{
		{"three bytes", 64, nil, 0, 128, 3},
		{"no bytes", 64, nil, 0, 128, 0},
		{"no bytes at the end of memory", 64, nil, 0, 256, 0},
		{"as many as there may be", 64, nil, 0, 128, 64},
		{"as many, up to the end of memory", 64, nil, 0, 192, 64},
		{"the last byte", 64, nil, 0, 255, 1},
		{"at an odd address, the command itself", 64, nil, 0, 65, 7},
		{"behind others", 64, []string{"abc", "", "de"}, 5, 130, 4},
		{"by a command that ends memory", 248, nil, 0, 240, 16},
		{"by a command at no multiple of 4", 66, []string{"a"}, 1, 128, 3},
	} {
		b := commandBoard(t, 9, row.at, row.address, row.length)
		for _, packet := range row.sent {
			b.net.Send([]byte(packet))
		}
		b.Send([]byte("waits"))
		puts := moved("sent", row.first, "m", int(row.address), int(row.length))
		commands(t, row.name, b, mem(int(row.at), 8), puts, "ask1", func(b *Board) {
			b.net.Send(b.Memory()[row.address : row.address+row.length])
			b.answers[1] = row.length
		})
	}
}

// P11.1: commands that send nothing.
func TestSendIsRefused(t *testing.T) {
	for _, row := range []struct {
		name            string
		at              uint32
		address, length uint32
		words           string
	}{
		{"65 bytes", 64, 128, 65, mem(64, 8)},
		{"as many as memory has", 64, 0, 256, mem(64, 8)},
		{"4294967295 bytes", 64, 128, 4294967295, mem(64, 8)},
		{"64 bytes that end beyond memory", 64, 193, 64, mem(64, 8)},
		{"one byte at the end of memory", 64, 256, 1, mem(64, 8)},
		{"one byte far beyond", 64, 4294967295, 1, mem(64, 8)},
		{"a sum that is no word", 64, 4294967232, 64, mem(64, 8)},
		{"a command of 7 bytes in memory", 249, 128, 3, mem(249, 4)},
		{"a command of 5 bytes in memory", 251, 128, 3, mem(251, 4)},
		{"a command of 3 bytes in memory", 253, 128, 3, ""},
		{"a command at the end of memory", 256, 128, 3, ""},
		{"a command far beyond", 1 << 31, 128, 3, ""},
		{"a command that ends at 2^32", 4294967288, 128, 3, ""},
		{"a command whose last word goes beyond 2^32", 4294967289, 128, 3, ""},
		{"a command whose last word is at 2^32", 4294967292, 128, 3, ""},
		{"a command at the last address of all", 4294967295, 128, 3, ""},
	} {
		b := commandBoard(t, 9, row.at, row.address, row.length)
		commands(t, row.name, b, row.words, "", "ask1", func(b *Board) { b.answers[1] = 4294967295 })
		if len(b.Sent()) != 0 {
			t.Errorf("%s: %v was sent", row.name, b.Sent())
		}
	}
}
