package board

import (
	"bytes"
	"math"
	"testing"

	"pomander/api"
	"pomander/tlb"
)

// noBoards are those that New did not make.
func noBoards() map[string]*Board { return map[string]*Board{"nil": nil, "zero": {}} }

// P11.1: which forms there may be.
func TestNew(t *testing.T) {
	for _, row := range []struct {
		frames, sectors int
		errno           api.Errno
	}{
		{1, 1, api.OK}, {1, 32, api.OK}, {32, 1, api.OK}, {32, 32, api.OK}, {5, 7, api.OK},
		{0, 1, api.ErrArg}, {1, 0, api.ErrArg}, {0, 0, api.ErrArg}, {33, 1, api.ErrArg}, {1, 33, api.ErrArg}, {33, 33, api.ErrArg},
		{-1, 1, api.ErrArg}, {1, -1, api.ErrArg}, {math.MinInt, 1, api.ErrArg}, {1, math.MaxInt, api.ErrArg}, {math.MaxInt, 1, api.ErrArg},
	} {
		form := api.Form{Frames: row.frames, Sectors: row.sectors}
		b, errno := New(form)
		if errno != row.errno || (b != nil) != (errno == api.OK) {
			t.Errorf("New of %v is %v, %v", form, b, errno)
		}
		if b == nil {
			continue
		}
		if b.Form() != form || !bytes.Equal(b.Memory(), make([]byte, 64*row.frames)) || !bytes.Equal(b.Disk(), make([]byte, 64*row.sectors)) {
			t.Errorf("a board of %v is of %v, %d, %d bytes", form, b.Form(), len(b.Memory()), len(b.Disk()))
		}
		if b.State() != (api.State{Super: true}) || b.Now() != 0 || b.Halted() || len(b.Told()) != 0 || len(b.Sent()) != 0 {
			t.Errorf("a new board is %v, %d, %t, %v, %v", b.State(), b.Now(), b.Halted(), b.Told(), b.Sent())
		}
	}
}

// P11.1 to P11.3: what is asked of no board.
func TestNoBoard(t *testing.T) {
	for name, b := range noBoards() {
		if x, errno := b.Step(); errno != api.ErrNil || x.Kind != api.StepNone || x.Pc != 0 || x.Word != 0 || x.Cause != 0 || x.Touches != nil {
			t.Errorf("%s: Step is %v, %v", name, x, errno)
		}
		for _, n := range []int{-1, 0, 1 << 40} {
			if e, f := b.Load(n, nil), b.Write(n, make([]byte, 65)); e != api.ErrNil || f != api.ErrNil {
				t.Errorf("%s: Load is %v, Write %v", name, e, f)
			}
		}
		for _, many := range []int{0, 1, 257} {
			n, e := b.Type(make([]byte, many))
			m, f := b.Send(make([]byte, many))
			if n != 0 || m != 0 || e != api.ErrNil || f != api.ErrNil {
				t.Errorf("%s: Type is %d, %v, Send %d, %v", name, n, e, m, f)
			}
		}
		if b.State() != (api.State{}) || b.Now() != 0 || b.Halted() || b.Form() != (api.Form{}) || b.Copy() != nil {
			t.Errorf("%s: %v, %d, %t, %v, %v", name, b.State(), b.Now(), b.Halted(), b.Form(), b.Copy())
		}
		if b.Memory() != nil || b.Disk() != nil || b.Told() != nil || b.Sent() != nil {
			t.Errorf("%s: %v, %v, %v, %v", name, b.Memory(), b.Disk(), b.Told(), b.Sent())
		}
		for _, other := range noBoards() {
			if !Same(b, other) {
				t.Errorf("%s: none is not like none", name)
			}
		}
		if Same(b, made(t, 1, 1)) || Same(made(t, 1, 1), b) {
			t.Errorf("%s: none is like one that is there", name)
		}
	}
}

// P11.2: where bytes may be loaded; what is refused changes nothing.
func TestLoad(t *testing.T) {
	for _, row := range []struct {
		at, many int
		errno    api.Errno
	}{
		{0, 0, api.OK}, {0, 128, api.OK}, {5, 3, api.OK}, {62, 4, api.OK}, {127, 1, api.OK}, {127, 0, api.OK}, {64, 64, api.OK},
		{-1, 0, api.ErrRange}, {-1, 1, api.ErrRange}, {-1, 129, api.ErrRange}, {math.MinInt, 1, api.ErrRange},
		{128, 1, api.ErrRange}, {129, 1, api.ErrRange}, {129, 0, api.ErrRange}, {200, 300, api.ErrRange},
		{1 << 32, 1, api.ErrRange}, {1<<32 + 5, 1, api.ErrRange}, {math.MaxInt, 1, api.ErrRange}, {math.MaxInt, 0, api.ErrRange},
		{0, 129, api.ErrLong}, {1, 128, api.ErrLong}, {127, 2, api.ErrLong}, {64, 65, api.ErrLong}, {5, 4000, api.ErrLong},
	} {
		b := made(t, 2, 1)
		b.Load(0, counted(100, 128))
		want := counted(100, 128)
		if row.errno == api.OK {
			copy(want[row.at:], counted(7, row.many))
		}
		given := counted(7, row.many)
		if errno := b.Load(row.at, given); errno != row.errno {
			t.Errorf("Load of %d bytes at %d is %v, not %v", row.many, row.at, errno, row.errno)
		}
		kept := bytes.Equal(given, counted(7, row.many))
		clear(given)
		if !kept || !bytes.Equal(b.Memory(), want) {
			t.Errorf("behind Load of %d bytes at %d is %v", row.many, row.at, b.Memory())
		}
		if b.Now() != 0 || b.State() != (api.State{Super: true}) || !bytes.Equal(b.Disk(), make([]byte, 64)) {
			t.Errorf("Load of %d bytes at %d changes more than memory", row.many, row.at)
		}
	}
}

// P11.2: what may be written onto the disk; what is behind the bytes stays.
func TestWrite(t *testing.T) {
	for _, row := range []struct {
		sector, many int
		errno        api.Errno
	}{
		{0, 0, api.OK}, {0, 64, api.OK}, {1, 1, api.OK}, {2, 63, api.OK}, {2, 64, api.OK},
		{-1, 1, api.ErrRange}, {3, 1, api.ErrRange}, {3, 65, api.ErrRange}, {math.MinInt, 0, api.ErrRange}, {math.MaxInt, 0, api.ErrRange}, {1 << 32, 0, api.ErrRange},
		{0, 65, api.ErrLong}, {2, 65, api.ErrLong}, {1, 4000, api.ErrLong},
	} {
		b := made(t, 1, 3)
		for sector := range 3 {
			b.Write(sector, counted(100+64*sector, 64))
		}
		want := counted(100, 192)
		if row.errno == api.OK {
			copy(want[64*row.sector:], counted(7, row.many))
		}
		given := counted(7, row.many)
		if errno := b.Write(row.sector, given); errno != row.errno {
			t.Errorf("Write of %d bytes of the sector %d is %v, not %v", row.many, row.sector, errno, row.errno)
		}
		kept := bytes.Equal(given, counted(7, row.many))
		clear(given)
		if !kept || !bytes.Equal(b.Disk(), want) {
			t.Errorf("behind Write of %d bytes of the sector %d is %v", row.many, row.sector, b.Disk())
		}
		if b.Now() != 0 || b.State() != (api.State{Super: true}) || !bytes.Equal(b.Memory(), make([]byte, 64)) {
			t.Errorf("Write of %d bytes of the sector %d changes more than the disk", row.many, row.sector)
		}
	}
}

// P11.2: what is typed waits, and is numbered over all bytes.
func TestType(t *testing.T) {
	b := made(t, 1, 1)
	given := []byte("hi")
	if n, errno := b.Type(given); n != 0 || errno != api.OK || string(given) != "hi" {
		t.Errorf("Type is %d, %v", n, errno)
	}
	clear(given)
	if n, errno := b.Type(nil); n != 2 || errno != api.OK {
		t.Errorf("Type of nothing is %d, %v", n, errno)
	}
	if n, errno := b.Type(make([]byte, 255)); n != 0 || errno != api.ErrLong {
		t.Errorf("Type of 255 bytes more is %d, %v", n, errno)
	}
	if n, errno := b.Type(make([]byte, 254)); n != 2 || errno != api.OK {
		t.Errorf("Type of 254 bytes more is %d, %v", n, errno)
	}
	if n, errno := b.Type([]byte("x")); n != 0 || errno != api.ErrLong {
		t.Errorf("Type of one byte too much is %d, %v", n, errno)
	}
	if queue := b.lines.Queue(); len(queue) != 256 || string(queue[:2]) != "hi" {
		t.Errorf("what waits is %v", queue)
	}
	lay(t, b, 0, encoded(t, inst(api.OpIn, 1, 0, 0)))
	b.Step()
	if n, errno := b.Type([]byte("x")); n != 256 || errno != api.OK || b.State().Regs[1] != 'h' {
		t.Errorf("Type behind a byte that was taken is %d, %v", n, errno)
	}
	if b.Now() != 1 || len(b.Told()) != 0 || len(b.Sent()) != 0 {
		t.Error("Type changes more than what waits")
	}
}

// P11.2: what is sent to it waits, is numbered over all bytes, and raises the line 3.
func TestSend(t *testing.T) {
	b := made(t, 1, 1)
	if n, errno := b.Send(make([]byte, 65)); n != 0 || errno != api.ErrLong || b.lines.Raised(3) {
		t.Errorf("Send of 65 bytes is %d, %v, the line %t", n, errno, b.lines.Raised(3))
	}
	given := []byte("abc")
	if n, errno := b.Send(given); n != 0 || errno != api.OK || string(given) != "abc" || !b.lines.Raised(3) {
		t.Errorf("Send is %d, %v, the line %t", n, errno, b.lines.Raised(3))
	}
	clear(given)
	if n, errno := b.Send(nil); n != 3 || errno != api.OK {
		t.Errorf("Send of nothing is %d, %v", n, errno)
	}
	if n, errno := b.Send(make([]byte, 64)); n != 3 || errno != api.OK {
		t.Errorf("Send of 64 bytes is %d, %v", n, errno)
	}
	for n := range 253 {
		if first, errno := b.Send([]byte{1, 2}); first != 67+2*n || errno != api.OK {
			t.Errorf("Send is %d, %v", first, errno)
		}
	}
	if n, errno := b.Send([]byte("d")); n != 0 || errno != api.ErrLong || !b.lines.Raised(3) || b.lines.Raised(2) {
		t.Errorf("Send of a packet too much is %d, %v", n, errno)
	}
	if queue := b.net.Queue(); len(queue) != 256 || string(queue[0]) != "abc" || len(queue[1]) != 0 {
		t.Errorf("what waits is %v", queue)
	}
	if len(b.Sent()) != 0 || b.Now() != 0 {
		t.Error("Send changes more than what waits")
	}
	empty := made(t, 1, 1)
	if n, errno := empty.Send(nil); n != 0 || errno != api.OK || !empty.lines.Raised(3) {
		t.Errorf("Send of nothing to a new board is %d, %v", n, errno)
	}
}

// full is a board of which nothing is as at its making.
func full(t *testing.T) *Board {
	t.Helper()
	b := made(t, 3, 2)
	b.Load(0, counted(1, 192))
	b.Write(0, counted(2, 64))
	b.Write(1, counted(3, 64))
	b.Type([]byte("typed"))
	b.Send([]byte("came"))
	b.Send([]byte("too"))
	b.net.Send([]byte("went"))
	b.net.Send(nil)
	b.lines.Tell('t')
	b.lines.SetAlarm(90)
	b.lines.SetMask(5)
	b.lines.Raise(2, true)
	b.tlb.Fill(api.Entry{Page: 3, Frame: 1, Write: true})
	b.state = api.State{Pc: 12, Epc: 1, Cause: 2, Vec: 3, Table: 4, Super: true, Prev: true}
	b.answers = [asks]uint32{8, 9}
	b.now = 30
	return b
}

// P11.3: a copy is the same; each part that is another one makes another board.
func TestCopyAndSame(t *testing.T) {
	for name, change := range map[string]func(b *Board){
		"a byte of memory":   func(b *Board) { b.Load(191, []byte{0}) },
		"a byte of the disk": func(b *Board) { b.Write(1, []byte{0}) },
		"what was typed":     func(b *Board) { b.Type([]byte("x")) },
		"what was taken":     func(b *Board) { b.lines.Take() },
		"the line 2":         func(b *Board) { b.lines.Raise(2, false) },
		"the line 3":         func(b *Board) { b.lines.Raise(3, false) },
		"the alarm":          func(b *Board) { b.lines.SetAlarm(91) },
		"the mask":           func(b *Board) { b.lines.SetMask(4) },
		"what was told":      func(b *Board) { b.lines.Tell('x') },
		"what came":          func(b *Board) { b.Send(nil) },
		"what was received":  func(b *Board) { b.net.Take() },
		"what was sent":      func(b *Board) { b.net.Send(nil) },
		"the TLB":            func(b *Board) { b.tlb.Drop(3) },
		"the next slot":      func(b *Board) { b.tlb.Fill(api.Entry{Page: 9}); b.tlb.Drop(9) },
		"a register":         func(b *Board) { b.state.Regs[7] = 1 },
		"the pc":             func(b *Board) { b.state.Pc = 16 },
		"epc":                func(b *Board) { b.state.Epc = 9 },
		"the cause":          func(b *Board) { b.state.Cause = 9 },
		"vec":                func(b *Board) { b.state.Vec = 9 },
		"the table":          func(b *Board) { b.state.Table = 9 },
		"super":              func(b *Board) { b.state.Super = false },
		"prev":               func(b *Board) { b.state.Prev = false },
		"enabled":            func(b *Board) { b.state.Enabled = true },
		"the disk's answer":  func(b *Board) { b.answers[0]++ },
		"the net's answer":   func(b *Board) { b.answers[1]++ },
		"the time":           func(b *Board) { b.now++ },
		"halted":             func(b *Board) { b.halted = true },
		"a step":             func(b *Board) { b.Step() },
	} {
		b := full(t)
		other := b.Copy()
		if !Same(b, other) || !Same(other, b) || !Same(b, b) || !Same(b, full(t)) {
			t.Fatalf("a copy is not the same")
		}
		change(other)
		if Same(b, other) || Same(other, b) {
			t.Errorf("with another %s it is the same", name)
		}
		if !Same(b, full(t)) {
			t.Errorf("%s of a copy changes the board", name)
		}
		change(b)
		if !Same(b, other) {
			t.Errorf("with %s in both they are not the same", name)
		}
	}
	for _, form := range []api.Form{{Frames: 2, Sectors: 2}, {Frames: 3, Sectors: 1}} {
		if Same(made(t, form.Frames, form.Sectors), made(t, 3, 2)) {
			t.Errorf("%v is like another form", form)
		}
	}
}

// P11.3: how a board stands is told by its calls, in new memory each time.
func TestTold(t *testing.T) {
	b := full(t)
	if b.Form() != (api.Form{Frames: 3, Sectors: 2}) || b.Now() != 30 || b.Halted() || b.State().Pc != 12 {
		t.Errorf("%v, %d, %t, %v", b.Form(), b.Now(), b.Halted(), b.State())
	}
	for range 2 {
		memory, disk, told, sent := b.Memory(), b.Disk(), b.Told(), b.Sent()
		if !bytes.Equal(memory, counted(1, 192)) || !bytes.Equal(disk, append(counted(2, 64), counted(3, 64)...)) {
			t.Errorf("Memory is %v, Disk %v", memory, disk)
		}
		if string(told) != "t" || len(sent) != 2 || string(sent[0]) != "went" || len(sent[1]) != 0 {
			t.Errorf("Told is %v, Sent %v", told, sent)
		}
		clear(memory)
		clear(disk)
		clear(told)
		clear(sent[0])
		clear(sent)
	}
	if !Same(b, full(t)) {
		t.Error("what was told is the board's own")
	}
}

// P11.3: a copy goes on apart, step by step; what comes to one does not come to the other.
func TestCopyGoesOnApart(t *testing.T) {
	b := made(t, 2, 2)
	lay(t, b, 0,
		encoded(t, inst(api.OpIn, 1, 0, 0)), encoded(t, inst(api.OpSw, 1, 0, 64)), encoded(t, inst(api.OpOut, 1, 0, 1)),
		encoded(t, inst(api.OpAddi, 2, 0, 68)), encoded(t, inst(api.OpOut, 2, 0, 5)), encoded(t, inst(api.OpOut, 2, 0, 9)), encoded(t, inst(api.OpHalt, 0, 0, 0)))
	lay(t, b, 68, 1, 0, 1)
	other := b.Copy()
	b.Type([]byte("b"))
	b.Send([]byte("b"))
	b.Write(0, []byte("b"))
	var stood []*Board
	for range 9 {
		stood = append(stood, b.Copy())
		b.Step()
	}
	if string(b.Told()) != "b" || b.Memory()[64] != 'b' || !b.Halted() || b.Now() != 7 || len(b.Sent()) != 1 || b.Disk()[68] != 64 {
		t.Errorf("%v, %v, %t, %d, %v, %v", b.Told(), b.Memory(), b.Halted(), b.Now(), b.Sent(), b.Disk())
	}
	if other.Now() != 0 || other.Memory()[64] != 0 || len(other.Told()) != 0 || len(other.Sent()) != 0 || other.Disk()[0] != 0 || other.lines.Waits() != 0 || other.net.Waits() != 0 {
		t.Error("a copy did not stay")
	}
	for n, one := range stood {
		if one.Now() != min(int64(n), 7) || one.Halted() != (n > 6) {
			t.Errorf("a copy ahead of the step %d is at %d", n, one.Now())
		}
		for !one.Halted() {
			one.Step()
		}
		if !Same(one, b) {
			t.Errorf("a copy ahead of the step %d goes on otherwise", n)
		}
	}
}

// P11.1: what one that is halted does: nothing, whatever comes.
func TestHalted(t *testing.T) {
	b := made(t, 1, 1)
	halt := encoded(t, inst(api.OpHalt, 0, 0, 0))
	lay(t, b, 0, halt, encoded(t, inst(api.OpAddi, 1, 1, 1)))
	stepIs{kind: api.StepRan, word: halt, touches: joined(always, "?<"+mem(0, 4), "pc<pc"), changes: func(b *Board) { b.halted = true }}.steps(t, "halt", b)
	b.state.Enabled = true
	b.lines.SetMask(15)
	b.Type([]byte("x"))
	b.Send([]byte("y"))
	b.Load(8, []byte("z"))
	for range 3 {
		want := b.Copy()
		if x, errno := b.Step(); errno != api.OK || x.Kind != api.StepHalted || x.Word != 0 || x.Cause != 0 || len(x.Touches) != 0 {
			t.Errorf("Step of one that is halted is %v, %v", x, errno)
		}
		if !Same(b, want) {
			t.Error("one that is halted does something")
		}
	}
}

// P11.1: the chapter's example of a word that is none.
func TestTrapAgainAndAgain(t *testing.T) {
	b := made(t, 1, 1)
	for n := range 5 {
		if x, errno := b.Step(); errno != api.OK || x.Kind != api.StepTrap || x.Cause != 1 || x.Pc != 0 || x.Word != 0 || b.Now() != int64(n+1) {
			t.Errorf("Step is %v, %v", x, errno)
		}
	}
}

// P11.1: what a step tells is new memory, and shares none within itself.
func TestTouchesAreNewMemory(t *testing.T) {
	user := func() *Board {
		b := made(t, 4, 1)
		lay(t, b, 0, encoded(t, inst(api.OpLw, 1, 2, 64)))
		lay(t, b, 128, 1, 1<<8+1)
		b.state = api.State{Table: 128}
		return b
	}
	command := func() *Board {
		b := made(t, 4, 1)
		lay(t, b, 0, encoded(t, inst(api.OpOut, 1, 0, 5)))
		lay(t, b, 64, 0, 128, 0)
		b.state.Regs[1] = 64
		return b
	}
	for _, ready := range []func() *Board{user, command, func() *Board { return made(t, 1, 1) }} {
		first, _ := ready().Step()
		want := text(first.Touches)
		b := ready()
		x, _ := b.Step()
		behind := b.Copy()
		for n, touch := range x.Touches {
			rest := text(x.Touches[n+1:])
			for at := range touch.From[:cap(touch.From)] {
				touch.From[:cap(touch.From)][at] = api.Place{Kind: api.PlaceReg, N: 7}
			}
			if text(x.Touches[n+1:]) != rest {
				t.Error("touches share memory")
			}
			x.Touches[n] = api.Touch{}
		}
		again, _ := ready().Step()
		if text(again.Touches) != want || !Same(b, behind) {
			t.Error("an answer was spoiled")
		}
	}
}

// P11.2, P11.3: a board's TLB is empty at first: the table is asked of each page.
func TestTlbIsEmptyAtFirst(t *testing.T) {
	if b := made(t, 1, 1); !tlb.Same(b.tlb, tlb.New()) {
		t.Errorf("the TLB is %v", b.tlb.All())
	}
}
