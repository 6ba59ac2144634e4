package frames

import (
	"bytes"
	"math"
	"slices"
	"testing"

	"pomander/api"
)

const mostBytes = api.MaxFrames * api.PageBytes

// noFrames are frames that New and Of did not make: their answers are those of none.
func noFrames() map[string]*Frames {
	refused, _ := New(0)
	refusedOf, _ := Of(nil)
	return map[string]*Frames{"nil": nil, "refused": refused, "refused by Of": refusedOf, "zero": {}}
}

// noWidths are numbers of bytes that no value has.
var noWidths = []int{0, 2, 3, 5, 8, 64, -1, -4, 1<<32 + 1, 1<<32 + 4, math.MaxInt, math.MinInt}

func made(t *testing.T, pages int) *Frames {
	t.Helper()
	f, errno := New(pages)
	if f == nil || errno != api.OK {
		t.Fatalf("New(%d) is %v, %v", pages, f, errno)
	}
	return f
}

func of(t *testing.T, b []byte) *Frames {
	t.Helper()
	f, errno := Of(b)
	if f == nil || errno != api.OK {
		t.Fatalf("Of(%d bytes) is %v, %v", len(b), f, errno)
	}
	return f
}

func write(t *testing.T, f *Frames, addr uint32, width int, value uint32) {
	t.Helper()
	if errno := f.Write(addr, width, value); errno != api.OK {
		t.Fatalf("Write(%d, %d, %d) is %v", addr, width, value, errno)
	}
}

func load(t *testing.T, f *Frames, addr uint32, b []byte) {
	t.Helper()
	if errno := f.Load(addr, b); errno != api.OK {
		t.Fatalf("Load(%d, %d bytes) is %v", addr, len(b), errno)
	}
}

func reads(t *testing.T, f *Frames, addr uint32, width int, wanted uint32) {
	t.Helper()
	if got, errno := f.Read(addr, width); got != wanted || errno != api.OK {
		t.Errorf("Read(%d, %d) is %d, %v, not %d", addr, width, got, errno, wanted)
	}
}

// holds fails where frames have other bytes than these, told together, one by one, or as words.
func holds(t *testing.T, f *Frames, wanted []byte) {
	t.Helper()
	if got := f.Size(); got != len(wanted) {
		t.Fatalf("Size is %d, not %d", got, len(wanted))
	}
	if got := f.Bytes(); !bytes.Equal(got, wanted) {
		t.Errorf("Bytes is %v, not %v", got, wanted)
	}
	for at, b := range wanted {
		reads(t, f, uint32(at), 1, uint32(b))
	}
	for at := 0; at < len(wanted); at += 4 {
		w := wanted[at:]
		reads(t, f, uint32(at), 4, uint32(w[0])|uint32(w[1])<<8|uint32(w[2])<<16|uint32(w[3])<<24)
	}
}

// sample is bytes of which few that stand near each other are alike.
func sample(pages int) []byte {
	b := make([]byte, pages*api.PageBytes)
	for at := range b {
		b[at] = byte(at*7 + at/api.PageBytes + 1)
	}
	return b
}

func TestNewAndSize(t *testing.T) { // P5.1
	for _, pages := range []int{1, 2, 3, 31, 32} {
		holds(t, made(t, pages), make([]byte, pages*64))
	}
	for _, pages := range []int{0, -1, 33, 64, math.MaxInt, math.MinInt, 1 << 32, 1<<32 + 1, 1 << 58, 1<<58 + 1} {
		if f, errno := New(pages); f != nil || errno != api.ErrArg {
			t.Errorf("New(%d) is %v, %v", pages, f, errno)
		}
	}
}

func TestOf(t *testing.T) { // P5.1
	for _, pages := range []int{1, 2, 3, 31, 32} {
		holds(t, of(t, sample(pages)), sample(pages))
	}
	for _, n := range []int{0, 1, 4, 63, 65, 127, 129, mostBytes - 64 + 1, mostBytes - 1, mostBytes + 1, mostBytes + 64, 2 * mostBytes} {
		if f, errno := Of(make([]byte, n)); f != nil || errno != api.ErrArg {
			t.Errorf("Of(%d bytes) is %v, %v", n, f, errno)
		}
	}
	if f, errno := Of(nil); f != nil || errno != api.ErrArg {
		t.Errorf("Of(nil) is %v, %v", f, errno)
	}
}

// TestOfKeepsNothing: what was handed in goes on apart, spare room behind it included.
func TestOfKeepsNothing(t *testing.T) { // P5.1
	room := append(sample(2), sample(1)...)
	was := bytes.Clone(room)
	f := of(t, room[:128])
	for addr := range uint32(128) {
		write(t, f, addr, 1, 255)
	}
	if !bytes.Equal(room, was) {
		t.Error("what was handed in was changed")
	}
	clear(room)
	holds(t, f, bytes.Repeat([]byte{255}, 128))
}

// TestBytesIsNewMemory: an answer shares nothing with the frames, nor with another answer.
func TestBytesIsNewMemory(t *testing.T) { // P5.1
	f := of(t, sample(2))
	one, other := f.Bytes(), f.Bytes()
	clear(one)
	clear(one[:cap(one)])
	_ = append(one[:64], sample(1)...)
	if !bytes.Equal(other, sample(2)) {
		t.Error("two answers share bytes")
	}
	holds(t, f, sample(2))
	write(t, f, 0, 1, 77)
	if !bytes.Equal(other, sample(2)) {
		t.Error("an answer has what was written later")
	}
}

func TestNoFrames(t *testing.T) { // P5.1, P5.2
	for name, f := range noFrames() {
		for _, addr := range []uint32{0, 1, 2, 4, 64, math.MaxUint32} {
			for _, width := range append([]int{1, 4}, noWidths...) {
				if got, errno := f.Read(addr, width); got != 0 || errno != api.ErrNil {
					t.Errorf("%s: Read(%d, %d) is %d, %v", name, addr, width, got, errno)
				}
				if errno := f.Write(addr, width, 5); errno != api.ErrNil {
					t.Errorf("%s: Write(%d, %d) is %v", name, addr, width, errno)
				}
			}
			for _, b := range [][]byte{nil, {}, {1}, sample(33)} {
				if errno := f.Load(addr, b); errno != api.ErrNil {
					t.Errorf("%s: Load(%d, %d bytes) is %v", name, addr, len(b), errno)
				}
			}
		}
		if f.Size() != 0 || len(f.Bytes()) != 0 || f.Copy() != nil {
			t.Errorf("%s: Size %d, Bytes %v, Copy %v", name, f.Size(), f.Bytes(), f.Copy())
		}
	}
}

func TestExamples(t *testing.T) { // P5.1, P5.2
	for pages, wanted := range map[int]api.Errno{0: api.ErrArg, 33: api.ErrArg, 1: api.OK} {
		if _, errno := New(pages); errno != wanted {
			t.Errorf("New(%d) is %v", pages, errno)
		}
	}
	if _, errno := Of(make([]byte, 63)); errno != api.ErrArg {
		t.Errorf("Of(63 bytes) is %v", errno)
	}
	f := made(t, 1)
	write(t, f, 4, 4, 258)
	reads(t, f, 4, 1, 2)
	reads(t, f, 5, 1, 1)
	for _, row := range []struct {
		addr   uint32
		width  int
		wanted api.Errno
	}{{2, 4, api.ErrAlign}, {64, 1, api.ErrRange}, {0, 2, api.ErrArg}} {
		if got, errno := f.Read(row.addr, row.width); got != 0 || errno != row.wanted {
			t.Errorf("Read(%d, %d) is %d, %v", row.addr, row.width, got, errno)
		}
	}
	if errno := f.Load(62, make([]byte, 3)); errno != api.ErrRange {
		t.Errorf("Load(62, 3 bytes) is %v", errno)
	}
	load(t, f, 64, nil)
}

// TestFirstAndLast: the first and the last byte and word of all pages, and of each page, are written with nothing beside them.
func TestFirstAndLast(t *testing.T) { // P5.2, P5.3
	const value = 0xf1e2d3c4
	for _, pages := range []int{1, 2, 32} {
		size := pages * api.PageBytes
		for page := 0; page < size; page += api.PageBytes {
			for _, at := range []int{page, page + 63} {
				f, wanted := of(t, sample(pages)), sample(pages)
				write(t, f, uint32(at), 1, value)
				wanted[at] = 0xc4
				holds(t, f, wanted)
			}
			for _, at := range []int{page, page + 60} {
				f, wanted := of(t, sample(pages)), sample(pages)
				write(t, f, uint32(at), 4, value)
				copy(wanted[at:], []byte{0xc4, 0xd3, 0xe2, 0xf1})
				holds(t, f, wanted)
			}
		}
	}
}

// TestValues: a byte is a value's lowest one, whatever stands above; a word is its four bytes, the lowest first.
func TestValues(t *testing.T) { // P5.2, P5.3
	for _, value := range []uint32{0, 1, 127, 128, 255, 256, 258, 0xff00, 0xffffff00, 1 << 16, 1 << 24, 1 << 31, 1<<31 - 1, 0x01020304, 0x80402010, math.MaxUint32} {
		f, wanted := of(t, sample(1)), sample(1)
		write(t, f, 8, 4, value)
		copy(wanted[8:], []byte{byte(value), byte(value >> 8), byte(value >> 16), byte(value >> 24)})
		write(t, f, 21, 1, value)
		wanted[21] = byte(value)
		holds(t, f, wanted)
		reads(t, f, 8, 4, value)
		reads(t, f, 21, 1, value&255)
	}
}

// TestWordOfBytes: bytes that were written or loaded are read as a word, and a word as its bytes.
func TestWordOfBytes(t *testing.T) { // P5.3
	f := made(t, 1)
	for n, b := range []uint32{0x11, 0x22, 0x33, 0xf4} {
		write(t, f, uint32(12+n), 1, b)
	}
	reads(t, f, 12, 4, 0xf4332211)
	load(t, f, 13, []byte{0x55, 0x66})
	reads(t, f, 12, 4, 0xf4665511)
	write(t, f, 12, 4, 0x0a0b0c0d)
	for n, b := range []uint32{0x0d, 0x0c, 0x0b, 0x0a} {
		reads(t, f, uint32(12+n), 1, b)
	}
	write(t, f, 12, 4, 0)
	holds(t, f, make([]byte, 64))
}

// TestEachAddress: what is answered at each address up to far behind the last byte, with a byte and with a word.
func TestEachAddress(t *testing.T) { // P5.2, P5.3
	for _, pages := range []int{1, 2, 3, 32} {
		f, size := of(t, sample(pages)), uint32(pages*api.PageBytes)
		for addr := range size + 130 {
			of1, of4 := api.OK, api.OK
			if addr >= size {
				of1, of4 = api.ErrRange, api.ErrRange
			}
			if addr%4 != 0 {
				of4 = api.ErrAlign
			}
			for width, wanted := range map[int]api.Errno{1: of1, 4: of4} {
				got, errno := f.Read(addr, width)
				if errno != wanted || errno != api.OK && got != 0 {
					t.Errorf("of %d: Read(%d, %d) is %d, %v, not %v", size, addr, width, got, errno, wanted)
				}
				if errno := f.Write(addr, width, got); errno != wanted {
					t.Errorf("of %d: Write(%d, %d) is %v, not %v", size, addr, width, errno, wanted)
				}
			}
		}
		holds(t, f, sample(pages))
	}
}

// TestFarAddresses: words near the highest one are beyond the bytes, and no sum of them comes back to the first ones.
func TestFarAddresses(t *testing.T) { // P5.2, P5.3
	for _, pages := range []int{1, 32} {
		f := of(t, sample(pages))
		for _, addr := range []uint32{4096, 1 << 16, 1<<31 - 4, 1 << 31, 1<<31 + 4, math.MaxUint32 - 63, math.MaxUint32 - 7, math.MaxUint32 - 3} {
			for _, width := range []int{1, 4} {
				if got, errno := f.Read(addr, width); got != 0 || errno != api.ErrRange {
					t.Errorf("Read(%d, %d) is %d, %v", addr, width, got, errno)
				}
				if errno := f.Write(addr, width, 5); errno != api.ErrRange {
					t.Errorf("Write(%d, %d) is %v", addr, width, errno)
				}
			}
		}
		for back := range uint32(64) {
			for _, b := range [][]byte{nil, {9}, make([]byte, 4), make([]byte, 64), make([]byte, 65), make([]byte, mostBytes)} {
				if errno := f.Load(math.MaxUint32-back, b); errno != api.ErrRange {
					t.Errorf("Load(%d, %d bytes) is %v", math.MaxUint32-back, len(b), errno)
				}
			}
		}
		holds(t, f, sample(pages))
	}
}

// TestNoWidth: it is refused ahead of the address, whatever that is.
func TestNoWidth(t *testing.T) { // P5.2, P5.3
	f := of(t, sample(2))
	for _, width := range noWidths {
		for _, addr := range []uint32{0, 1, 2, 4, 63, 127, 128, 129, math.MaxUint32} {
			if got, errno := f.Read(addr, width); got != 0 || errno != api.ErrArg {
				t.Errorf("Read(%d, %d) is %d, %v", addr, width, got, errno)
			}
			if errno := f.Write(addr, width, 5); errno != api.ErrArg {
				t.Errorf("Write(%d, %d) is %v", addr, width, errno)
			}
		}
	}
	holds(t, f, sample(2))
}

// TestAlign: an address that the width does not divide is refused ahead of one beyond the bytes.
func TestAlign(t *testing.T) { // P5.2, P5.3
	f := of(t, sample(1))
	for _, addr := range []uint32{1, 2, 3, 5, 58, 61, 62, 63, 65, 66, 67, 1<<31 + 1, math.MaxUint32 - 2, math.MaxUint32 - 1, math.MaxUint32} {
		if got, errno := f.Read(addr, 4); got != 0 || errno != api.ErrAlign {
			t.Errorf("Read(%d, 4) is %d, %v", addr, got, errno)
		}
		if errno := f.Write(addr, 4, 5); errno != api.ErrAlign {
			t.Errorf("Write(%d, 4) is %v", addr, errno)
		}
	}
	holds(t, f, sample(1))
}

// TestLoad: bytes go to any address, over any edge, up to the last byte.
func TestLoad(t *testing.T) { // P5.2, P5.3
	for _, row := range []struct{ pages, addr, n int }{
		{1, 0, 1}, {1, 0, 64}, {1, 1, 3}, {1, 1, 63}, {1, 63, 1}, {1, 60, 4}, {1, 61, 3},
		{2, 0, 128}, {2, 63, 2}, {2, 62, 5}, {2, 64, 64}, {2, 127, 1}, {3, 1, 190}, {3, 63, 66}, {3, 63, 129},
		{32, 0, mostBytes}, {32, 1, mostBytes - 1}, {32, mostBytes - 1, 1}, {32, mostBytes - 64, 64}, {32, 1000, 500},
	} {
		f, wanted := of(t, sample(row.pages)), sample(row.pages)
		room := bytes.Repeat([]byte{0xee, 0x11, 0x99}, mostBytes)
		was := bytes.Clone(room)
		load(t, f, uint32(row.addr), room[:row.n])
		copy(wanted[row.addr:], was[:row.n])
		holds(t, f, wanted)
		clear(room[:row.n]) // nothing of it is kept
		holds(t, f, wanted)
		if !bytes.Equal(room[row.n:], was[row.n:]) {
			t.Errorf("Load(%d, %d bytes) changed what stands behind them", row.addr, row.n)
		}
	}
}

func TestLoadChangesNothingHandedIn(t *testing.T) { // P5.2
	f, b := made(t, 1), []byte{1, 2, 3, 4}
	load(t, f, 10, b)
	write(t, f, 10, 1, 200)
	write(t, f, 12, 4, 0)
	if !bytes.Equal(b, []byte{1, 2, 3, 4}) {
		t.Errorf("what was loaded is %v now", b)
	}
}

// TestLoadNoBytes: no bytes may be loaded at any address up to behind the last byte, and not beyond.
func TestLoadNoBytes(t *testing.T) { // P5.2
	for _, pages := range []int{1, 2, 32} {
		f := of(t, sample(pages))
		for addr := range uint32(f.Size() + 1) {
			load(t, f, addr, nil)
			load(t, f, addr, []byte{})
		}
		for _, over := range []uint32{1, 2, 3, 4, 64, 1 << 20, 1 << 31} {
			addr := uint32(f.Size()) + over
			for _, none := range [][]byte{nil, {}} {
				if errno := f.Load(addr, none); errno != api.ErrRange {
					t.Errorf("of %d: Load(%d, none) is %v", f.Size(), addr, errno)
				}
			}
		}
		holds(t, f, sample(pages))
	}
}

// TestLoadBeyond: of bytes that go beyond the last one, none is there.
func TestLoadBeyond(t *testing.T) { // P5.2, P5.3
	for _, pages := range []int{1, 2, 32} {
		f := of(t, sample(pages))
		for addr := range f.Size() + 2 {
			for _, over := range []int{1, 2, 64, mostBytes} {
				n := max(f.Size()-addr, 0) + over
				if errno := f.Load(uint32(addr), bytes.Repeat([]byte{0xee}, n)); errno != api.ErrRange {
					t.Errorf("of %d: Load(%d, %d bytes) is %v", f.Size(), addr, n, errno)
				}
			}
		}
		holds(t, f, sample(pages))
	}
}

func TestCopyGoesOnApart(t *testing.T) { // P5.1
	f := of(t, sample(3))
	other := f.Copy()
	if other == nil || other == f || !Same(f, other) {
		t.Fatal("the copy is not others with the same bytes")
	}
	holds(t, other, sample(3))
	mine, its := sample(3), sample(3)
	for _, at := range []uint32{0, 64, 128, 188} {
		write(t, f, at, 4, 0xffffffff)
		copy(mine[at:], []byte{255, 255, 255, 255})
	}
	holds(t, f, mine)
	holds(t, other, its)
	load(t, other, 60, []byte{1, 2, 3, 4, 5, 6, 7, 8})
	copy(its[60:], []byte{1, 2, 3, 4, 5, 6, 7, 8})
	holds(t, f, mine)
	holds(t, other, its)
	if Same(f, other) {
		t.Error("Same of others")
	}
	holds(t, made(t, 32).Copy(), make([]byte, mostBytes))
}

func TestSame(t *testing.T) { // P5.1
	base := of(t, sample(2))
	loaded := made(t, 2)
	load(t, loaded, 0, sample(2))
	for name, row := range map[string]struct {
		other  *Frames
		wanted bool
	}{
		"itself":            {base, true},
		"its copy":          {base.Copy(), true},
		"others of them":    {of(t, sample(2)), true},
		"the same, loaded":  {loaded, true},
		"fewer pages":       {of(t, sample(1)), false},
		"more pages":        {of(t, sample(3)), false},
		"noughts":           {made(t, 2), false},
		"more pages of 0":   {of(t, append(sample(2), make([]byte, 64)...)), false},
		"pages the other":   {of(t, slices.Concat(sample(2)[64:], sample(2)[:64])), false},
		"one page repeated": {of(t, slices.Concat(sample(1), sample(1))), false},
	} {
		if Same(base, row.other) != row.wanted || Same(row.other, base) != row.wanted {
			t.Errorf("%s: Same is not %t", name, row.wanted)
		}
	}
	if !Same(made(t, 1), made(t, 1)) || Same(made(t, 1), made(t, 2)) {
		t.Error("noughts are not alike by their pages alone")
	}
	for _, pages := range []int{1, 2, 32} {
		for at := range pages * api.PageBytes {
			other := of(t, sample(pages))
			write(t, other, uint32(at), 1, uint32(sample(pages)[at])^128)
			if Same(other, of(t, sample(pages))) || Same(of(t, sample(pages)), other) {
				t.Errorf("of %d pages: Same, though the byte %d is another", pages, at)
			}
		}
	}
}

func TestSameOfNone(t *testing.T) { // P5.1
	for name, none := range noFrames() {
		for _, other := range noFrames() {
			if !Same(none, other) {
				t.Errorf("%s: none are not like none", name)
			}
		}
		for _, there := range []*Frames{made(t, 1), made(t, 32), of(t, sample(2))} {
			if Same(none, there) || Same(there, none) {
				t.Errorf("%s: none are like frames that are there", name)
			}
		}
	}
}

// steady tells numbers by a fixed rule, so that every run sees the same ones.
func steady(seed uint32) func(below int) int {
	return func(below int) int {
		seed = seed*1664525 + 1013904223
		return int(seed>>8) % below
	}
}

// TestAgainstAPlainList: calls that go and calls that are refused, mixed, leave what a plain list by hand has.
func TestAgainstAPlainList(t *testing.T) { // P5.2, P5.3
	for _, pages := range []int{1, 2, 5, 32} {
		next := steady(uint32(pages))
		f, hand := of(t, sample(pages)), sample(pages)
		for turn := range 600 {
			addr, value := next(len(hand)+8), uint32(next(1<<16)*next(1<<16))
			switch next(3) {
			case 0:
				if errno := f.Write(uint32(addr), 1, value); (errno == api.OK) != (addr < len(hand)) {
					t.Fatalf("Write(%d, 1) is %v", addr, errno)
				}
				if addr < len(hand) {
					hand[addr] = byte(value)
				}
			case 1:
				goes := addr%4 == 0 && addr < len(hand)
				if errno := f.Write(uint32(addr), 4, value); (errno == api.OK) != goes {
					t.Fatalf("Write(%d, 4) is %v", addr, errno)
				}
				for n := range 4 {
					if goes {
						hand[addr+n] = byte(value >> (8 * n))
					}
				}
			case 2:
				b := bytes.Repeat([]byte{byte(value), byte(value >> 8)}, next(70))
				goes := addr+len(b) <= len(hand)
				if errno := f.Load(uint32(addr), b); (errno == api.OK) != goes {
					t.Fatalf("Load(%d, %d bytes) is %v", addr, len(b), errno)
				}
				if goes {
					copy(hand[addr:], b)
				}
			}
			if turn%20 == 0 {
				holds(t, f, hand)
			}
		}
		holds(t, f, hand)
	}
}
