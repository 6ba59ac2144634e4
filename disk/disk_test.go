package disk

import (
	"bytes"
	"iter"
	"math"
	"slices"
	"testing"

	"pomander/api"
)

const mostBytes = api.MaxSectors * api.PageBytes

// page is a sector's bytes, as the calls take and tell them.
type page = [api.PageBytes]byte

// noDisks are disks that New and Of did not make: their answers are those of none.
func noDisks() map[string]*Disk {
	refused, _ := New(0)
	refusedOf, _ := Of(nil)
	return map[string]*Disk{"nil": nil, "refused": refused, "refused by Of": refusedOf, "zero": {}}
}

// beyond are numbers of no sector of a disk that has so many.
func beyond(sectors int) []int {
	return []int{sectors, sectors + 1, sectors + 32, -1, -2, -sectors, -64, 1 << 32, 1<<32 + 1, 1 << 58, math.MaxInt, math.MinInt}
}

func fresh(t *testing.T, sectors int) *Disk {
	t.Helper()
	d, errno := New(sectors)
	if d == nil || errno != api.OK {
		t.Fatalf("New(%d) is %v, %v", sectors, d, errno)
	}
	return d
}

func of(t *testing.T, b []byte) *Disk {
	t.Helper()
	d, errno := Of(b)
	if d == nil || errno != api.OK {
		t.Fatalf("Of(%d bytes) is %v, %v", len(b), d, errno)
	}
	return d
}

func write(t *testing.T, d *Disk, n int, b page) {
	t.Helper()
	if errno := d.Write(n, b); errno != api.OK {
		t.Fatalf("Write(%d, %v) is %v", n, b, errno)
	}
}

// usedOf are the numbers of the sectors that are not all noughts, by hand.
func usedOf(b []byte) []int {
	var used []int
	for n := range len(b) / api.PageBytes {
		if page(b[n*api.PageBytes:]) != (page{}) {
			used = append(used, n)
		}
	}
	return used
}

func uses(t *testing.T, each iter.Seq[int], wanted ...int) {
	t.Helper()
	if each == nil {
		t.Fatal("Used is nil")
	}
	if got := slices.Collect(each); !slices.Equal(got, wanted) {
		t.Errorf("Used is %v, not %v", got, wanted)
	}
}

// holds fails where a disk has other bytes than these, told together, sector by sector, or as sectors that are used.
func holds(t *testing.T, d *Disk, wanted []byte) {
	t.Helper()
	if got := d.Sectors(); got != len(wanted)/api.PageBytes {
		t.Fatalf("Sectors is %d, not %d", got, len(wanted)/api.PageBytes)
	}
	if got := d.Bytes(); !bytes.Equal(got, wanted) {
		t.Errorf("Bytes is %v, not %v", got, wanted)
	}
	for n := range d.Sectors() {
		if got, errno := d.Read(n); got != page(wanted[n*api.PageBytes:]) || errno != api.OK {
			t.Errorf("Read(%d) is %v, %v", n, got, errno)
		}
	}
	uses(t, d.Used(), usedOf(wanted)...)
}

// sample is bytes of which few that stand near each other are alike, and no two sectors are.
func sample(sectors int) []byte {
	b := make([]byte, sectors*api.PageBytes)
	for at := range b {
		b[at] = byte(at*7 + at/api.PageBytes + 1)
	}
	return b
}

// sparse is bytes of which just these sectors are not all noughts.
func sparse(sectors int, used ...int) []byte {
	b := make([]byte, sectors*api.PageBytes)
	for _, n := range used {
		copy(b[n*api.PageBytes:(n+1)*api.PageBytes], sample(n + 1)[n*api.PageBytes:])
	}
	return b
}

// full is a sector of one byte again and again.
func full(b byte) page { return page(bytes.Repeat([]byte{b}, api.PageBytes)) }

func TestNewAndSectors(t *testing.T) { // P8.1
	for _, sectors := range []int{1, 2, 3, 31, 32} {
		holds(t, fresh(t, sectors), make([]byte, sectors*64))
	}
	for _, sectors := range []int{0, -1, -32, 33, 64, math.MaxInt, math.MinInt, 1 << 32, 1<<32 + 1, 1 << 58, 1<<58 + 1} {
		if d, errno := New(sectors); d != nil || errno != api.ErrArg {
			t.Errorf("New(%d) is %v, %v", sectors, d, errno)
		}
	}
}

func TestNewAnswersAnotherOne(t *testing.T) { // P8.1
	one := fresh(t, 3)
	write(t, one, 1, full(9))
	holds(t, fresh(t, 3), make([]byte, 3*64))
	holds(t, one, slices.Concat(make([]byte, 64), bytes.Repeat([]byte{9}, 64), make([]byte, 64)))
}

func TestOf(t *testing.T) { // P8.1
	for _, sectors := range []int{1, 2, 3, 31, 32} {
		holds(t, of(t, sample(sectors)), sample(sectors))
		holds(t, of(t, make([]byte, sectors*64)), make([]byte, sectors*64))
		holds(t, of(t, sparse(sectors, sectors-1)), sparse(sectors, sectors-1))
		holds(t, of(t, sparse(sectors, 0)), sparse(sectors, 0))
	}
	for _, n := range []int{0, 1, 4, 63, 65, 127, 129, mostBytes - 63, mostBytes - 1, mostBytes + 1, mostBytes + 64, 2 * mostBytes} {
		if d, errno := Of(make([]byte, n)); d != nil || errno != api.ErrArg {
			t.Errorf("Of(%d bytes) is %v, %v", n, d, errno)
		}
	}
	if d, errno := Of(nil); d != nil || errno != api.ErrArg {
		t.Errorf("Of(nil) is %v, %v", d, errno)
	}
}

// TestOfKeepsNothing: what was handed in goes on apart, and neither it nor the spare room behind it is changed.
func TestOfKeepsNothing(t *testing.T) { // P8.1
	room := append(sample(2), sample(1)...)
	was := bytes.Clone(room)
	d := of(t, room[:128])
	write(t, d, 0, full(255))
	write(t, d, 1, full(254))
	if !bytes.Equal(room, was) {
		t.Error("what was handed in was changed")
	}
	clear(room)
	holds(t, d, slices.Concat(bytes.Repeat([]byte{255}, 64), bytes.Repeat([]byte{254}, 64)))
}

// TestBytesIsNewMemory: an answer shares nothing with the disk, nor with another answer.
func TestBytesIsNewMemory(t *testing.T) { // P8.1
	d := of(t, sample(2))
	one, other := d.Bytes(), d.Bytes()
	clear(one[:cap(one)])
	_ = append(one[:64], sample(1)...)
	if !bytes.Equal(other, sample(2)) {
		t.Error("two answers share bytes")
	}
	holds(t, d, sample(2))
	write(t, d, 0, full(77))
	if !bytes.Equal(other, sample(2)) {
		t.Error("an answer has what was written later")
	}
}

func TestNoDisk(t *testing.T) { // P8.1, P8.2, P8.3
	for name, d := range noDisks() {
		for _, n := range append(beyond(1), 0, 1, 31) {
			if got, errno := d.Read(n); got != (page{}) || errno != api.ErrNil {
				t.Errorf("%s: Read(%d) is %v, %v", name, n, got, errno)
			}
			for _, b := range []page{{}, full(5)} {
				if errno := d.Write(n, b); errno != api.ErrNil {
					t.Errorf("%s: Write(%d, %v) is %v", name, n, b, errno)
				}
			}
		}
		if d.Sectors() != 0 || len(d.Bytes()) != 0 || d.Copy() != nil {
			t.Errorf("%s: Sectors %d, Bytes %v, Copy %v", name, d.Sectors(), d.Bytes(), d.Copy())
		}
		uses(t, d.Used())
	}
}

func TestExamples(t *testing.T) { // P8.1, P8.2, P8.3
	for sectors, wanted := range map[int]api.Errno{0: api.ErrArg, 33: api.ErrArg, 3: api.OK} {
		if _, errno := New(sectors); errno != wanted {
			t.Errorf("New(%d) is %v", sectors, errno)
		}
	}
	if _, errno := Of(make([]byte, 65)); errno != api.ErrArg {
		t.Errorf("Of(65 bytes) is %v", errno)
	}
	d, x := fresh(t, 3), page(sample(1))
	write(t, d, 2, x)
	if got, errno := d.Read(2); got != x || errno != api.OK {
		t.Errorf("Read(2) is %v, %v", got, errno)
	}
	if got, errno := d.Read(3); got != (page{}) || errno != api.ErrRange {
		t.Errorf("Read(3) is %v, %v", got, errno)
	}
	uses(t, d.Used(), 2)
	write(t, d, 2, page{})
	uses(t, d.Used())
}

// TestEachSector: each sector of each disk, the first and the last one included, is written with nothing beside it; one behind the last one is not there.
func TestEachSector(t *testing.T) { // P8.2, P8.4
	for _, sectors := range []int{1, 2, 3, 32} {
		for n := range sectors {
			d, wanted := of(t, sample(sectors)), sample(sectors)
			write(t, d, n, full(200))
			copy(wanted[n*64:], bytes.Repeat([]byte{200}, 64))
			holds(t, d, wanted)
			empty, alone := fresh(t, sectors), sparse(sectors, n)
			write(t, empty, n, page(alone[n*64:]))
			holds(t, empty, alone)
		}
	}
}

// TestBeyond: sectors that are not there are neither read nor written, and nothing is changed.
func TestBeyond(t *testing.T) { // P8.2, P8.4
	for _, sectors := range []int{1, 2, 3, 31, 32} {
		d := of(t, sample(sectors))
		for _, n := range beyond(sectors) {
			if got, errno := d.Read(n); got != (page{}) || errno != api.ErrRange {
				t.Errorf("of %d: Read(%d) is %v, %v", sectors, n, got, errno)
			}
			for _, b := range []page{{}, full(5)} {
				if errno := d.Write(n, b); errno != api.ErrRange {
					t.Errorf("of %d: Write(%d, %v) is %v", sectors, n, b, errno)
				}
			}
		}
		holds(t, d, sample(sectors))
	}
}

// TestOneByte: a sector with one byte that is not nought is used, wherever the byte stands and whatever it is.
func TestOneByte(t *testing.T) { // P8.2, P8.3
	for at := range api.PageBytes {
		for _, b := range []byte{1, 127, 128, 255} {
			d, wanted := fresh(t, 2), make([]byte, 128)
			wanted[64+at] = b
			write(t, d, 1, page(wanted[64:]))
			holds(t, d, wanted)
			holds(t, of(t, wanted), wanted)
		}
	}
}

// TestWrittenAgain: what was written last is read, noughts too, and others after noughts.
func TestWrittenAgain(t *testing.T) { // P8.2, P8.3, P8.4
	for _, n := range []int{0, 3, 31} {
		d, wanted := of(t, sample(32)), sample(32)
		for _, b := range []page{full(1), full(1), page(sample(1)), {}, {}, full(255), {63: 1}, {}, {1}} {
			write(t, d, n, b)
			copy(wanted[n*64:], b[:])
			holds(t, d, wanted)
		}
	}
}

// TestWriteKeepsACopy: what was written and what was read go on apart from the disk.
func TestWriteKeepsACopy(t *testing.T) { // P8.2, P8.4
	d, b := fresh(t, 2), full(7)
	write(t, d, 1, b)
	clear(b[:])
	got, _ := d.Read(1)
	if got != full(7) {
		t.Errorf("Read is %v", got)
	}
	clear(got[:])
	holds(t, d, slices.Concat(make([]byte, 64), bytes.Repeat([]byte{7}, 64)))
}

// TestUsed: rising, in whatever order they were written.
func TestUsed(t *testing.T) { // P8.3
	for _, order := range [][]int{{0}, {31}, {31, 0}, {5, 3, 4, 30, 1}, {31, 30, 29, 2, 1, 0}, {8, 8, 7, 8}} {
		d := fresh(t, 32)
		for _, n := range order {
			write(t, d, n, full(byte(n+1)))
		}
		rising := slices.Compact(slices.Sorted(slices.Values(order)))
		uses(t, d.Used(), rising...)
		for gone, n := range rising {
			write(t, d, n, page{})
			uses(t, d.Used(), rising[gone+1:]...)
		}
	}
}

// TestUsedIsLeft: it may be left at any time, ahead of the first one that is told too, and gone over again, whole.
func TestUsedIsLeft(t *testing.T) { // P8.3
	d := of(t, sparse(32, 1, 4, 9, 31))
	each, all := d.Used(), []int{1, 4, 9, 31}
	uses(t, each, all...)
	for stop := 1; stop <= len(all); stop++ {
		var got []int
		for n := range each {
			got = append(got, n)
			if len(got) == stop {
				break
			}
		}
		if !slices.Equal(got, all[:stop]) {
			t.Errorf("left after %d, Used was %v", stop, got)
		}
		uses(t, each, all...)
	}
	asked := 0
	each(func(int) bool { asked++; return false })
	if asked != 1 {
		t.Errorf("Used told %d more once it was left", asked-1)
	}
	holds(t, d, sparse(32, 1, 4, 9, 31))
}

// TestUsedWithinItself: two ways over it at once do not meet.
func TestUsedWithinItself(t *testing.T) { // P8.3
	each := of(t, sparse(4, 0, 2, 3)).Used()
	var got []int
	for a := range each {
		for b := range each {
			got = append(got, 10*a+b)
		}
	}
	if !slices.Equal(got, []int{0, 2, 3, 20, 22, 23, 30, 32, 33}) {
		t.Errorf("within itself, Used was %v", got)
	}
}

// TestUsedAsItWas: sectors are gone over as they were at the call, whatever is written behind it, on the way too.
func TestUsedAsItWas(t *testing.T) { // P8.3
	d := of(t, sparse(5, 1, 3))
	then := d.Used()
	write(t, d, 0, full(1))
	write(t, d, 3, page{})
	uses(t, then, 1, 3)
	uses(t, d.Used(), 0, 1)
	var got []int
	for n := range d.Used() {
		got = append(got, n)
		write(t, d, n, page{})
		write(t, d, n+2, full(3))
	}
	if !slices.Equal(got, []int{0, 1}) {
		t.Errorf("while sectors were written, Used was %v", got)
	}
	uses(t, d.Used(), 2, 3)
	uses(t, then, 1, 3)
}

func TestCopyGoesOnApart(t *testing.T) { // P8.3
	for _, sectors := range []int{1, 3, 32} {
		d := of(t, sample(sectors))
		other := d.Copy()
		if other == nil || other == d || !Same(d, other) {
			t.Fatal("the copy is not another one with the same bytes")
		}
		holds(t, other, sample(sectors))
		mine, its := sample(sectors), sample(sectors)
		write(t, d, sectors-1, full(9))
		copy(mine[(sectors-1)*64:], bytes.Repeat([]byte{9}, 64))
		holds(t, d, mine)
		holds(t, other, its)
		write(t, other, 0, page{})
		clear(its[:64])
		holds(t, d, mine)
		holds(t, other, its)
		if Same(d, other) {
			t.Error("Same of others")
		}
	}
	holds(t, fresh(t, 32).Copy(), make([]byte, mostBytes))
	holds(t, of(t, sparse(32, 7, 31)).Copy(), sparse(32, 7, 31))
}

func TestSame(t *testing.T) { // P8.3
	base := of(t, sample(2))
	written := fresh(t, 2)
	write(t, written, 1, page(sample(2)[64:]))
	write(t, written, 0, page(sample(1)))
	for name, row := range map[string]struct {
		other  *Disk
		wanted bool
	}{
		"itself":              {base, true},
		"its copy":            {base.Copy(), true},
		"another one of them": {of(t, sample(2)), true},
		"the same, written":   {written, true},
		"fewer sectors":       {of(t, sample(1)), false},
		"more sectors":        {of(t, sample(3)), false},
		"noughts":             {fresh(t, 2), false},
		"more, of noughts":    {of(t, append(sample(2), make([]byte, 64)...)), false},
		"the other way round": {of(t, slices.Concat(sample(2)[64:], sample(1))), false},
		"one of noughts":      {of(t, sparse(2, 1)), false},
		"one sector repeated": {of(t, slices.Concat(sample(1), sample(1))), false},
	} {
		if Same(base, row.other) != row.wanted || Same(row.other, base) != row.wanted {
			t.Errorf("%s: Same is not %t", name, row.wanted)
		}
	}
	if !Same(fresh(t, 1), fresh(t, 1)) || Same(fresh(t, 1), fresh(t, 2)) {
		t.Error("noughts are not alike by their sectors alone")
	}
}

// TestSameAgain: a sector that was written and is all noughts again is like one that never was written.
func TestSameAgain(t *testing.T) { // P8.3, P8.4
	d, other := fresh(t, 3), fresh(t, 3)
	write(t, d, 1, full(4))
	if Same(d, other) || Same(other, d) {
		t.Error("Same, though a sector is another")
	}
	write(t, d, 1, page{})
	write(t, other, 2, page{})
	if !Same(d, other) || !Same(other, d) || !Same(d, of(t, make([]byte, 192))) {
		t.Error("not Same, though both are all noughts")
	}
}

// TestSameLooksAtEachByte: one other byte anywhere is seen.
func TestSameLooksAtEachByte(t *testing.T) { // P8.3
	for _, sectors := range []int{1, 2, 32} {
		base := of(t, sample(sectors))
		for at := range sectors * api.PageBytes {
			b := sample(sectors)
			b[at] ^= 128
			if other := of(t, b); Same(other, base) || Same(base, other) {
				t.Errorf("of %d: Same, though the byte %d is another", sectors, at)
			}
		}
	}
}

func TestSameOfNone(t *testing.T) { // P8.3
	for name, none := range noDisks() {
		for _, other := range noDisks() {
			if !Same(none, other) {
				t.Errorf("%s: none is not like none", name)
			}
		}
		for _, there := range []*Disk{fresh(t, 1), fresh(t, 32), of(t, sample(2))} {
			if Same(none, there) || Same(there, none) {
				t.Errorf("%s: none is like a disk that is there", name)
			}
		}
	}
}

// steady tells numbers by a fixed rule, so that every run sees the same ones.
func steady(seed uint32) func(below int) int {
	return func(below int) int {
		seed = seed*1664525 + 1013904223
		return int(seed>>8) % below
	}
}

// TestAgainstAPlainList: writes that go and writes that are refused, mixed with copies, leave what a plain list by hand has.
func TestAgainstAPlainList(t *testing.T) { // P8.2, P8.3, P8.4
	for _, sectors := range []int{1, 2, 5, 32} {
		next := steady(uint32(sectors))
		d, hand := of(t, sample(sectors)), sample(sectors)
		for turn := range 600 {
			n, b := next(sectors+4)-2, page{}
			if next(3) > 0 {
				b[next(64)], b[63] = byte(next(256)), byte(next(3))
			}
			goes := n >= 0 && n < sectors
			if errno := d.Write(n, b); goes && errno != api.OK || !goes && errno != api.ErrRange {
				t.Fatalf("of %d: Write(%d) is %v", sectors, n, errno)
			}
			if goes {
				copy(hand[n*64:], b[:])
			}
			if next(10) == 0 {
				d = d.Copy()
			}
			if turn%20 == 0 {
				holds(t, d, hand)
				if !Same(d, of(t, hand)) {
					t.Fatalf("of %d: not Same as a disk of the list", sectors)
				}
			}
		}
		holds(t, d, hand)
	}
}
