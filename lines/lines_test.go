package lines

import (
	"bytes"
	"math"
	"testing"

	"pomander/api"
)

// noLines are lines that New did not make: their answers are those of none.
func noLines() map[string]*Lines { return map[string]*Lines{"nil": nil, "zero": {}} }

// someLines are numbers that are lines, and some that are none.
var someLines = []int{math.MinInt, -4, -3, -2, -1, 0, 1, 2, 3, 4, 5, 18, 32, 34, 64, 66, math.MaxInt - 1, math.MaxInt}

// someTimes are times near 0, near where words end, and at the ends of all.
var someTimes = []int64{math.MinInt64, -1 << 32, -6, -5, -1, 0, 1, 4, 5, 6, 1<<31 - 1, 1 << 31, 1<<32 - 1, 1 << 32, 1<<32 + 4, 1<<32 + 5, 1 << 40, math.MaxInt64}

// byHand are lines told by lists alone.
type byHand struct {
	alarm, mask uint32
	two, three  bool
	queue, told []byte
	pushed      int
}

// wants are the lines that want something, one after the other.
func (h *byHand) wants(now int64) []int {
	var list []int
	if h.alarm != 0 && !(now < int64(h.alarm)) {
		list = append(list, 0)
	}
	if len(h.queue) != 0 {
		list = append(list, 1)
	}
	if h.two {
		list = append(list, 2)
	}
	if h.three {
		list = append(list, 3)
	}
	return list
}

// bitOf are the bits of the lines.
var bitOf = [4]uint32{1, 2, 4, 8}

// setMask takes the bits of the lines out of a mask.
func (h *byHand) setMask(mask uint32) {
	h.mask = 0
	for _, bit := range bitOf {
		if mask&bit != 0 {
			h.mask += bit
		}
	}
}

// pending is the first line that wants something and is in the mask.
func (h *byHand) pending(now int64) (int, bool) {
	for _, line := range h.wants(now) {
		if h.mask&bitOf[line] != 0 {
			return line, true
		}
	}
	return 0, false
}

// holds fails where lines stand otherwise than those by hand, in one of their calls.
func holds(t *testing.T, l *Lines, h byHand) {
	t.Helper()
	if l.Alarm() != h.alarm || l.Mask() != h.mask {
		t.Errorf("Alarm is %d, not %d; Mask is %d, not %d", l.Alarm(), h.alarm, l.Mask(), h.mask)
	}
	for _, line := range someLines {
		if wanted := line == 2 && h.two || line == 3 && h.three; l.Raised(line) != wanted {
			t.Errorf("Raised(%d) is not %t", line, wanted)
		}
	}
	if l.Waits() != len(h.queue) || !bytes.Equal(l.Queue(), h.queue) {
		t.Errorf("Waits is %d, Queue %v, not %v", l.Waits(), l.Queue(), h.queue)
	}
	if !bytes.Equal(l.Told(), h.told) {
		t.Errorf("Told is %v, not %v", l.Told(), h.told)
	}
	for _, now := range someTimes {
		asks(t, l, h, now)
	}
}

// asks fails where lines want otherwise at a time.
func asks(t *testing.T, l *Lines, h byHand, now int64) {
	t.Helper()
	var set uint32
	for _, line := range h.wants(now) {
		set += bitOf[line]
	}
	if got := l.Wants(now); got != set {
		t.Errorf("Wants(%d) is %d, not %d", now, got, set)
	}
	pending(t, l, now, h)
}

func pending(t *testing.T, l *Lines, now int64, h byHand) {
	t.Helper()
	line, is := h.pending(now)
	if gotLine, got := l.Pending(now); gotLine != line || got != is {
		t.Errorf("Pending(%d) is %d, %t, not %d, %t", now, gotLine, got, line, is)
	}
}

func push(t *testing.T, l *Lines, b []byte, wanted int, errno api.Errno) {
	t.Helper()
	if n, e := l.Push(b); n != wanted || e != errno {
		t.Errorf("Push of %d bytes is %d, %v, not %d, %v", len(b), n, e, wanted, errno)
	}
}

func take(t *testing.T, l *Lines, wanted byte, number int) {
	t.Helper()
	if b, n, is := l.Take(); b != wanted || n != number || !is {
		t.Errorf("Take is %d, %d, %t, not %d, %d", b, n, is, wanted, number)
	}
}

func takeNone(t *testing.T, l *Lines) {
	t.Helper()
	if b, n, is := l.Take(); b != 0 || n != 0 || is {
		t.Errorf("Take is %d, %d, %t, though none waits", b, n, is)
	}
}

func tell(t *testing.T, l *Lines, b byte, wanted int) {
	t.Helper()
	if n := l.Tell(b); n != wanted {
		t.Errorf("Tell(%d) is %d, not %d", b, n, wanted)
	}
}

func raise(t *testing.T, l *Lines, line int, up bool, errno api.Errno) {
	t.Helper()
	if e := l.Raise(line, up); e != errno {
		t.Errorf("Raise(%d, %t) is %v, not %v", line, up, e, errno)
	}
}

// counted are so many bytes, that rise from a first one.
func counted(first, many int) []byte {
	list := make([]byte, many)
	for n := range list {
		list[n] = byte(first + n)
	}
	return list
}

func TestNew(t *testing.T) { // P7.1
	l := New()
	if l == nil {
		t.Fatal("New is nil")
	}
	holds(t, l, byHand{})
	takeNone(t, l)
	push(t, l, nil, 0, api.OK)
	l.SetAlarm(1)
	l.SetMask(15)
	push(t, l, []byte("a"), 0, api.OK)
	tell(t, l, 'b', 0)
	raise(t, l, 2, true, api.OK)
	holds(t, New(), byHand{})
}

func TestNoLines(t *testing.T) { // P7.1 to P7.4
	for name, l := range noLines() {
		l.SetAlarm(1)
		l.SetMask(15)
		for _, line := range someLines {
			raise(t, l, line, true, api.ErrNil)
			raise(t, l, line, false, api.ErrNil)
		}
		push(t, l, nil, 0, api.ErrNil)
		push(t, l, []byte("ab"), 0, api.ErrNil)
		push(t, l, make([]byte, api.MaxWaits+1), 0, api.ErrNil)
		tell(t, l, 'a', 0)
		tell(t, l, 'b', 0)
		takeNone(t, l)
		holds(t, l, byHand{})
		if len(l.Queue()) != 0 || len(l.Told()) != 0 || l.Copy() != nil {
			t.Errorf("%s: Queue %v, Told %v, Copy %v", name, l.Queue(), l.Told(), l.Copy())
		}
		for _, other := range noLines() {
			if !Same(l, other) {
				t.Errorf("%s: none are not like none", name)
			}
		}
		if Same(l, New()) || Same(New(), l) {
			t.Errorf("%s: none are like those that are there", name)
		}
	}
}

func TestExamples(t *testing.T) { // P7.1 to P7.3
	l := New()
	l.SetAlarm(5)
	l.SetMask(15)
	if line, is := l.Pending(5); l.Wants(4) != 0 || l.Wants(5) != 1 || line != 0 || !is {
		t.Errorf("Wants %d, %d, Pending %d, %t", l.Wants(4), l.Wants(5), line, is)
	}
	l = New()
	push(t, l, []byte("ab"), 0, api.OK)
	take(t, l, 'a', 0)
	push(t, l, []byte("c"), 2, api.OK)
	take(t, l, 'b', 1)
	take(t, l, 'c', 2)
	takeNone(t, l)
	l.SetMask(30)
	raise(t, l, 3, true, api.OK)
	if line, is := l.Pending(9); l.Mask() != 14 || line != 3 || !is {
		t.Errorf("Mask %d, Pending %d, %t", l.Mask(), line, is)
	}
	raise(t, l, 1, true, api.ErrArg)
}

// TestAlarm: 0 is none; else the timer wants something from that time on, and not ahead of it, whatever word the alarm is.
func TestAlarm(t *testing.T) { // P7.1, P7.3
	for _, at := range []uint32{0, 1, 2, 5, 1<<31 - 1, 1 << 31, 1<<31 + 1, math.MaxUint32 - 1, math.MaxUint32, 0} {
		l := New()
		l.SetMask(15)
		l.SetAlarm(77)
		l.SetAlarm(at)
		h := byHand{alarm: at, mask: 15}
		holds(t, l, h)
		for now := int64(at) - 2; now <= int64(at)+2; now++ {
			asks(t, l, h, now)
			if wanted := at > 0 && now >= int64(at); l.Wants(now) == 1 != wanted {
				t.Errorf("alarm %d: Wants(%d) is %d", at, now, l.Wants(now))
			}
		}
	}
}

// TestAlarmStays: it is asked, not told once; a later alarm takes the place of the earlier one.
func TestAlarmStays(t *testing.T) { // P7.1, P7.3
	l := New()
	l.SetMask(1)
	l.SetAlarm(5)
	for range 3 {
		holds(t, l, byHand{alarm: 5, mask: 1})
	}
	l.SetAlarm(6)
	holds(t, l, byHand{alarm: 6, mask: 1})
	l.SetAlarm(0)
	holds(t, l, byHand{mask: 1})
}

// TestMask: of each word the lowest four bits are kept, those of the word before are gone.
func TestMask(t *testing.T) { // P7.1
	l := New()
	for _, high := range []uint32{0, 16, 32, 48, 1 << 16, 1 << 31, math.MaxUint32 - 15} {
		for low := range uint32(16) {
			l.SetMask(high + low)
			holds(t, l, byHand{mask: low})
			l.SetMask(high + 15 - low)
			holds(t, l, byHand{mask: 15 - low})
		}
	}
}

// TestRaise: the lines 2 and 3 are raised and lowered each by itself, as often as one likes.
func TestRaise(t *testing.T) { // P7.1, P7.3
	l := New()
	l.SetMask(15)
	h := byHand{mask: 15}
	for _, x := range []struct {
		line int
		up   bool
	}{{2, true}, {2, true}, {3, true}, {2, false}, {2, false}, {3, true}, {2, true}, {3, false}, {2, false}, {3, false}, {3, true}} {
		raise(t, l, x.line, x.up, api.OK)
		if x.line == 2 {
			h.two = x.up
		} else {
			h.three = x.up
		}
		holds(t, l, h)
	}
}

// TestRaiseOfOtherLines: they are refused, and nothing is raised or lowered by it.
func TestRaiseOfOtherLines(t *testing.T) { // P7.1
	for _, h := range []byHand{{}, {two: true}, {three: true}, {two: true, three: true, mask: 15, alarm: 3, queue: []byte("q"), pushed: 1}} {
		l := made(h)
		was := l.Copy()
		for _, line := range someLines {
			if line == 2 || line == 3 {
				continue
			}
			for _, up := range []bool{true, false, true} {
				raise(t, l, line, up, api.ErrArg)
			}
		}
		holds(t, l, h)
		if !Same(l, was) {
			t.Error("a refused Raise changed something")
		}
	}
}

// made are lines that stand like those by hand; bytes that were taken are noughts.
func made(h byHand) *Lines {
	l := New()
	for range h.pushed - len(h.queue) {
		l.Push([]byte{0})
		l.Take()
	}
	l.Push(h.queue)
	for _, b := range h.told {
		l.Tell(b)
	}
	l.SetAlarm(h.alarm)
	l.SetMask(h.mask)
	l.Raise(2, h.two)
	l.Raise(3, h.three)
	return l
}

// TestPushOfNoBytes: it tells the number of the byte that comes next, and changes nothing, be the queue empty or full.
func TestPushOfNoBytes(t *testing.T) { // P7.2
	l := New()
	for _, none := range [][]byte{nil, {}, make([]byte, 0, 9)} {
		push(t, l, none, 0, api.OK)
		holds(t, l, byHand{})
	}
	push(t, l, []byte("ab"), 0, api.OK)
	push(t, l, nil, 2, api.OK)
	take(t, l, 'a', 0)
	push(t, l, nil, 2, api.OK)
	take(t, l, 'b', 1)
	push(t, l, nil, 2, api.OK)
	takeNone(t, l)
	push(t, l, counted(0, api.MaxWaits), 2, api.OK)
	push(t, l, nil, 2+api.MaxWaits, api.OK)
	push(t, l, []byte{}, 2+api.MaxWaits, api.OK)
	holds(t, l, byHand{queue: counted(0, api.MaxWaits)})
}

// TestPushAtTheBound: as many as may wait go, at one time or one by one; one more is refused, and none of them waits.
func TestPushAtTheBound(t *testing.T) { // P7.2
	whole := counted(7, api.MaxWaits)
	for _, first := range []int{0, 1, 100, api.MaxWaits - 1, api.MaxWaits} {
		l := New()
		push(t, l, whole[:first], 0, api.OK)
		for _, over := range []int{api.MaxWaits - first + 1, api.MaxWaits + 1, 1000, 1 << 20} {
			push(t, l, make([]byte, over), 0, api.ErrLong)
			holds(t, l, byHand{queue: whole[:first]})
			push(t, l, nil, first, api.OK)
		}
		push(t, l, whole[first:], first, api.OK)
		holds(t, l, byHand{queue: whole})
		push(t, l, []byte{1}, 0, api.ErrLong)
		holds(t, l, byHand{queue: whole})
		take(t, l, 7, 0)
		push(t, l, []byte{1, 2}, 0, api.ErrLong)
		push(t, l, []byte{1}, api.MaxWaits, api.OK)
		push(t, l, []byte{1}, 0, api.ErrLong)
		holds(t, l, byHand{queue: append(bytes.Clone(whole[1:]), 1)})
		if l.Waits() != api.MaxWaits {
			t.Errorf("Waits is %d", l.Waits())
		}
	}
}

func TestPushOneByOne(t *testing.T) { // P7.2
	l := New()
	for n := range api.MaxWaits {
		push(t, l, []byte{byte(n)}, n, api.OK)
	}
	push(t, l, []byte{9}, 0, api.ErrLong)
	for n := range api.MaxWaits {
		take(t, l, byte(n), n)
		if l.Waits() != api.MaxWaits-1-n {
			t.Errorf("Waits is %d", l.Waits())
		}
	}
	takeNone(t, l)
}

// TestNumbersGoOn: what was taken counts on, beyond what may wait at one time; what was refused does not count.
func TestNumbersGoOn(t *testing.T) { // P7.2, P7.5
	l := New()
	next := 0
	for round := range 40 {
		many := 1 + round*13%api.MaxWaits
		push(t, l, counted(round, many), next, api.OK)
		push(t, l, make([]byte, api.MaxWaits-many+1), 0, api.ErrLong)
		for n := range many {
			take(t, l, byte(round+n), next+n)
		}
		next += many
		takeNone(t, l)
		takeNone(t, l)
		push(t, l, nil, next, api.OK)
		holds(t, l, byHand{})
	}
	if next <= 10*api.MaxWaits {
		t.Errorf("%d bytes are too few for this test", next)
	}
}

// TestPushedBytesAreNotKept: what is handed in is neither kept nor changed, spare room behind it included.
func TestPushedBytesAreNotKept(t *testing.T) { // P7.2
	room := []byte("abcdefgh")
	l := New()
	push(t, l, room[1:3], 0, api.OK)
	push(t, l, []byte("xy"), 2, api.OK)
	take(t, l, 'b', 0)
	push(t, l, room[5:6], 4, api.OK)
	if string(room) != "abcdefgh" {
		t.Errorf("what was handed in is %q now", room)
	}
	clear(room)
	holds(t, l, byHand{queue: []byte("cxyf")})
}

func TestAnyByte(t *testing.T) { // P7.2
	l := New()
	for n := range 256 {
		push(t, l, []byte{byte(n)}, n, api.OK)
		tell(t, l, byte(n), n)
		take(t, l, byte(n), n)
	}
	holds(t, l, byHand{told: counted(0, 256)})
}

// TestTell: bytes that are told have numbers of their own, and no bound of what may wait.
func TestTell(t *testing.T) { // P7.2
	l := New()
	var told []byte
	for n := range 5 * api.MaxWaits {
		b := byte(n * 7)
		tell(t, l, b, n)
		told = append(told, b)
		if n%50 == 0 {
			holds(t, l, byHand{told: told})
		}
	}
	push(t, l, []byte("q"), 0, api.OK)
	tell(t, l, 'z', len(told))
	take(t, l, 'q', 0)
	holds(t, l, byHand{told: append(told, 'z')})
}

// TestAnswersAreNewMemory: lists share nothing with the lines, nor with other answers.
func TestAnswersAreNewMemory(t *testing.T) { // P7.2
	l := made(byHand{queue: []byte("abcd"), told: []byte("wxyz"), pushed: 6})
	h := byHand{queue: []byte("abcd"), told: []byte("wxyz")}
	for name, list := range map[string]func() []byte{"Queue": l.Queue, "Told": l.Told} {
		one, other := list(), list()
		was := bytes.Clone(other)
		clear(one[:cap(one)])
		_ = append(one[:2], "!!!!!!!!"...)
		if !bytes.Equal(other, was) {
			t.Errorf("%s: two answers share bytes", name)
		}
		holds(t, l, h)
	}
	queue, told := l.Queue(), l.Told()
	take(t, l, 'a', 2)
	push(t, l, []byte("ef"), 6, api.OK)
	tell(t, l, '!', 4)
	if string(queue) != "abcd" || string(told) != "wxyz" {
		t.Errorf("answers have what came later: %q, %q", queue, told)
	}
	empty := l.Queue()[:0]
	_ = append(empty, "????"...)
	holds(t, l, byHand{queue: []byte("bcdef"), told: []byte("wxyz!")})
}

// TestEachWant: all lines that may want something, in all masks, at times around the alarm.
func TestEachWant(t *testing.T) { // P7.3, P7.5
	for wants := range uint32(16) {
		for mask := range uint32(16) {
			h := byHand{mask: mask, two: wants&4 != 0, three: wants&8 != 0}
			if wants&1 != 0 {
				h.alarm = 5
			}
			if wants&2 != 0 {
				h.queue, h.pushed = []byte{0}, 1
			}
			l := made(h)
			holds(t, l, h)
			if got := l.Wants(5); got != wants {
				t.Errorf("Wants is %d, not %d", got, wants)
			}
			if got := l.Wants(4); got != wants&14 {
				t.Errorf("Wants ahead of the alarm is %d, not %d", got, wants&14)
			}
			leastPending(t, l, wants&mask)
		}
	}
}

// leastPending fails where not the least line of a set is pending at the time 5.
func leastPending(t *testing.T, l *Lines, set uint32) {
	t.Helper()
	line, is := l.Pending(5)
	if is != (set != 0) || !is && line != 0 {
		t.Errorf("Pending of %d is %d, %t", set, line, is)
		return
	}
	if is && (set&bitOf[line] == 0 || set%bitOf[line] != 0) {
		t.Errorf("Pending of %d is %d: not in it, or not the least one", set, line)
	}
}

// TestWantsNotMasked: a line that wants something and is not in the mask is told by Wants, and is not pending.
func TestWantsNotMasked(t *testing.T) { // P7.3
	l := made(byHand{alarm: 1, queue: []byte("a"), pushed: 1, two: true, three: true})
	for _, row := range []struct {
		mask uint32
		line int
		is   bool
	}{{0, 0, false}, {15, 0, true}, {14, 1, true}, {12, 2, true}, {8, 3, true}, {10, 1, true}, {9, 0, true}, {16, 0, false}, {math.MaxUint32 - 15, 0, false}} {
		l.SetMask(row.mask)
		if line, is := l.Pending(1); line != row.line || is != row.is || l.Wants(1) != 15 {
			t.Errorf("mask %d: Pending is %d, %t, Wants %d", row.mask, line, is, l.Wants(1))
		}
	}
}

// TestConsoleWants: as long as a byte waits, and not by bytes that were told or refused.
func TestConsoleWants(t *testing.T) { // P7.3
	l := New()
	l.SetMask(2)
	h := byHand{mask: 2}
	tell(t, l, 'a', 0)
	h.told = []byte("a")
	push(t, l, make([]byte, api.MaxWaits+1), 0, api.ErrLong)
	push(t, l, nil, 0, api.OK)
	holds(t, l, h)
	push(t, l, []byte("bc"), 0, api.OK)
	for _, queue := range []string{"bc", "c", ""} {
		h.queue = []byte(queue)
		holds(t, l, h)
		if wanted := min(2, uint32(2*len(queue))); l.Wants(0) != wanted {
			t.Errorf("%q waits: Wants is %d", queue, l.Wants(0))
		}
		l.Take()
	}
}

// TestAskingChangesNothing: what is asked stays as it is.
func TestAskingChangesNothing(t *testing.T) { // P7.1 to P7.4
	h := byHand{alarm: 5, mask: 13, two: true, queue: []byte("abc"), told: []byte("xy"), pushed: 5}
	l := made(h)
	was := l.Copy()
	for range 3 {
		holds(t, l, h)
		Same(l, New())
		Same(New(), l)
		l.Copy().Take()
	}
	if !Same(l, was) {
		t.Error("what was asked changed something")
	}
	take(t, l, 'a', 2)
}

func TestCopyGoesOnApart(t *testing.T) { // P7.4
	h := byHand{alarm: 5, mask: 13, two: true, queue: []byte("abc"), told: []byte("xy"), pushed: 5}
	l := made(h)
	other := l.Copy()
	if other == nil || other == l || !Same(l, other) {
		t.Fatal("the copy is not other lines that stand alike")
	}
	change(t, l, 'd')
	changed := byHand{alarm: 9, mask: 2, three: true, queue: []byte("bcd"), told: []byte("xyd"), pushed: 6}
	holds(t, l, changed)
	holds(t, other, h)
	change(t, other, 'e')
	holds(t, l, changed)
	holds(t, other, byHand{alarm: 9, mask: 2, three: true, queue: []byte("bce"), told: []byte("xye")})
	if Same(l, other) {
		t.Error("Same of others")
	}
	third := other.Copy()
	take(t, other, 'b', 3)
	tell(t, other, '!', 3)
	take(t, third, 'b', 3)
	tell(t, third, '?', 3)
	holds(t, third, byHand{alarm: 9, mask: 2, three: true, queue: []byte("ce"), told: []byte("xye?")})
	if !Same(New().Copy(), New()) {
		t.Error("a copy of new ones is not like new ones")
	}
}

// change does something to all that lines have.
func change(t *testing.T, l *Lines, b byte) {
	t.Helper()
	l.SetAlarm(9)
	l.SetMask(2)
	raise(t, l, 2, false, api.OK)
	raise(t, l, 3, true, api.OK)
	take(t, l, 'a', 2)
	push(t, l, []byte{b}, 5, api.OK)
	tell(t, l, b, 2)
}

func TestSame(t *testing.T) { // P7.4
	base := byHand{alarm: 5, mask: 13, two: true, queue: []byte("abc"), told: []byte("xy"), pushed: 5}
	other := func(change func(h *byHand)) *Lines {
		h := base
		change(&h)
		return made(h)
	}
	l := made(base)
	for name, row := range map[string]struct {
		other  *Lines
		wanted bool
	}{
		"itself":              {l, true},
		"its copy":            {l.Copy(), true},
		"the same calls":      {made(base), true},
		"no change":           {other(func(h *byHand) {}), true},
		"more bits of mask":   {other(func(h *byHand) { h.mask += 48 }), true},
		"another alarm":       {other(func(h *byHand) { h.alarm = 6 }), false},
		"no alarm":            {other(func(h *byHand) { h.alarm = 0 }), false},
		"another mask":        {other(func(h *byHand) { h.mask = 12 }), false},
		"the line 2 lowered":  {other(func(h *byHand) { h.two = false }), false},
		"the line 3 raised":   {other(func(h *byHand) { h.three = true }), false},
		"the other line":      {other(func(h *byHand) { h.two, h.three = false, true }), false},
		"another byte waits":  {other(func(h *byHand) { h.queue = []byte("abd") }), false},
		"another order":       {other(func(h *byHand) { h.queue = []byte("bac") }), false},
		"fewer wait":          {other(func(h *byHand) { h.queue = []byte("ab") }), false},
		"more wait":           {other(func(h *byHand) { h.queue = []byte("abcd") }), false},
		"none waits":          {other(func(h *byHand) { h.queue = nil }), false},
		"another was told":    {other(func(h *byHand) { h.told = []byte("zy") }), false},
		"fewer were told":     {other(func(h *byHand) { h.told = []byte("x") }), false},
		"more were told":      {other(func(h *byHand) { h.told = []byte("xyz") }), false},
		"another next number": {other(func(h *byHand) { h.pushed++ }), false},
		"new ones":            {New(), false},
	} {
		if Same(l, row.other) != row.wanted || Same(row.other, l) != row.wanted {
			t.Errorf("%s: Same is not %t", name, row.wanted)
		}
	}
	if !Same(New(), New()) {
		t.Error("new ones are not alike")
	}
}

// TestSameBehindTakes: of bytes that were taken nothing stays but how many they were.
func TestSameBehindTakes(t *testing.T) { // P7.2, P7.4
	one, other, fewer := New(), New(), New()
	one.Push([]byte("abc"))
	for _, b := range []byte("xyc") {
		other.Push([]byte{b})
	}
	fewer.Push([]byte("bc"))
	for _, l := range []*Lines{one, one, other, other, fewer} {
		l.Take()
	}
	if !Same(one, other) || Same(one, fewer) {
		t.Error("with a byte that waits")
	}
	take(t, one, 'c', 2)
	take(t, other, 'c', 2)
	take(t, fewer, 'c', 1)
	if !Same(one, other) || Same(one, fewer) || Same(one, New()) {
		t.Error("with none that waits")
	}
}

// steady tells numbers by a fixed rule, so that every run sees the same ones.
func steady(seed uint32) func(below int) int {
	return func(below int) int {
		seed = seed*1664525 + 1013904223
		return int(seed>>8) % below
	}
}

// pushBoth pushes bytes, to lines and by hand.
func pushBoth(t *testing.T, l *Lines, h *byHand, list []byte) {
	t.Helper()
	if len(h.queue)+len(list) > 256 {
		push(t, l, list, 0, api.ErrLong)
		return
	}
	push(t, l, list, h.pushed, api.OK)
	h.queue = append(bytes.Clone(h.queue), list...)
	h.pushed += len(list)
}

// takeBoth takes a byte, from lines and by hand.
func takeBoth(t *testing.T, l *Lines, h *byHand) {
	t.Helper()
	if len(h.queue) == 0 {
		takeNone(t, l)
		return
	}
	take(t, l, h.queue[0], h.pushed-len(h.queue))
	h.queue = h.queue[1:]
}

// TestAgainstLists: calls, mixed, leave what lists by hand have.
func TestAgainstLists(t *testing.T) { // P7.1 to P7.5
	for _, most := range []int{2, 20, 400} {
		number := steady(uint32(most))
		l, h := New(), byHand{}
		for range 4000 {
			switch number(12) {
			case 0:
				h.alarm = uint32(number(8))
				l.SetAlarm(h.alarm)
			case 1:
				mask := uint32(number(1 << 20))
				l.SetMask(mask)
				h.setMask(mask)
			case 2:
				h.two = number(2) == 0
				raise(t, l, 2, h.two, api.OK)
			case 3:
				h.three = number(2) == 0
				raise(t, l, 3, h.three, api.OK)
			case 4:
				b := byte(number(256))
				tell(t, l, b, len(h.told))
				h.told = append(h.told, b)
			case 5:
				l = l.Copy()
			case 6, 7:
				pushBoth(t, l, &h, counted(number(256), number(most)))
			default:
				for range number(most) {
					takeBoth(t, l, &h)
				}
			}
			holds(t, l, h)
		}
	}
}
