package net

import (
	"bytes"
	"slices"
	"testing"

	"pomander/api"
)

// noNets are nets that New did not make: their answers are those of none.
func noNets() map[string]*Net { return map[string]*Net{"nil": nil, "zero": {}} }

// byHand is a net told by lists alone: all packets that ever came, how many of them were taken, and those that were sent.
type byHand struct {
	came, sent [][]byte
	taken      int
}

// byteCount is how many bytes packets have together.
func byteCount(packets [][]byte) int { return len(slices.Concat(packets...)) }

// list makes packets of texts.
func list(texts ...string) [][]byte {
	var packets [][]byte
	for _, text := range texts {
		packets = append(packets, []byte(text))
	}
	return packets
}

// counted is a packet of so many bytes, that rise from a first one.
func counted(first, length int) []byte {
	p := make([]byte, length)
	for at := range p {
		p[at] = byte(first + at)
	}
	return p
}

// holds fails where a net stands otherwise than that by hand, in one of its calls; what waits is taken of a copy, one by one.
func holds(t *testing.T, n *Net, h byHand) {
	t.Helper()
	tells(t, n, h)
	if n.none() {
		return
	}
	for other := n.Copy(); h.taken < len(h.came); h.taken++ {
		take(t, other)
		tells(t, other, byHand{h.came, h.sent, h.taken + 1})
	}
}

// tells fails where a net tells otherwise than that by hand; nothing is taken.
func tells(t *testing.T, n *Net, h byHand) {
	t.Helper()
	queue := h.came[h.taken:]
	if n.Waits() != len(queue) || !slices.EqualFunc(n.Queue(), queue, bytes.Equal) {
		t.Errorf("Waits is %d, Queue %v, not %v", n.Waits(), n.Queue(), queue)
	}
	if !slices.EqualFunc(n.Sent(), h.sent, bytes.Equal) {
		t.Errorf("Sent is %v, not %v", n.Sent(), h.sent)
	}
	if came, sent := n.Count(); came != byteCount(h.came) || sent != byteCount(h.sent) {
		t.Errorf("Count is %d, %d, not %d, %d", came, sent, byteCount(h.came), byteCount(h.sent))
	}
	if len(queue) == 0 {
		nextNone(t, n)
		return
	}
	next(t, n, queue[0], byteCount(h.came[:h.taken]))
}

func push(t *testing.T, n *Net, p []byte, wanted int, errno api.Errno) {
	t.Helper()
	if at, e := n.Push(p); at != wanted || e != errno {
		t.Errorf("Push of %d bytes is %d, %v, not %d, %v", len(p), at, e, wanted, errno)
	}
}

func send(t *testing.T, n *Net, p []byte, wanted int, errno api.Errno) {
	t.Helper()
	if at, e := n.Send(p); at != wanted || e != errno {
		t.Errorf("Send of %d bytes is %d, %v, not %d, %v", len(p), at, e, wanted, errno)
	}
}

func next(t *testing.T, n *Net, wanted []byte, number int) {
	t.Helper()
	if p, at, is := n.Next(); !bytes.Equal(p, wanted) || at != number || !is {
		t.Errorf("Next is %v, %d, %t, not %v, %d", p, at, is, wanted, number)
	}
}

func nextNone(t *testing.T, n *Net) {
	t.Helper()
	if p, at, is := n.Next(); p != nil || at != 0 || is {
		t.Errorf("Next is %v, %d, %t, though none waits", p, at, is)
	}
}

func take(t *testing.T, n *Net) {
	t.Helper()
	if !n.Take() {
		t.Error("Take is false, though one waits")
	}
}

func takeNone(t *testing.T, n *Net) {
	t.Helper()
	if n.Take() {
		t.Error("Take is true, though none waits")
	}
}

// made is a net that stands like that by hand.
func made(h byHand) *Net {
	n := New()
	for at, p := range h.came {
		n.Push(p)
		if at < h.taken {
			n.Take()
		}
	}
	for _, p := range h.sent {
		n.Send(p)
	}
	return n
}

func TestNew(t *testing.T) { // P9.1
	n := New()
	if n == nil {
		t.Fatal("New is nil")
	}
	holds(t, n, byHand{})
	takeNone(t, n)
	push(t, n, []byte("ab"), 0, api.OK)
	send(t, n, []byte("c"), 0, api.OK)
	holds(t, New(), byHand{})
	holds(t, n, byHand{came: list("ab"), sent: list("c")})
}

func TestNoNet(t *testing.T) { // P9.1 to P9.3
	for name, n := range noNets() {
		for _, p := range [][]byte{nil, {}, []byte("ab"), make([]byte, api.MaxPacket), make([]byte, api.MaxPacket+1)} {
			push(t, n, p, 0, api.ErrNil)
			send(t, n, p, 0, api.ErrNil)
		}
		takeNone(t, n)
		holds(t, n, byHand{})
		if len(n.Queue()) != 0 || len(n.Sent()) != 0 || n.Copy() != nil {
			t.Errorf("%s: Queue %v, Sent %v, Copy %v", name, n.Queue(), n.Sent(), n.Copy())
		}
		for _, other := range noNets() {
			if !Same(n, other) {
				t.Errorf("%s: none is not like none", name)
			}
		}
		if Same(n, New()) || Same(New(), n) {
			t.Errorf("%s: none is like one that is there", name)
		}
	}
}

func TestExamples(t *testing.T) { // P9.1, P9.2
	n := New()
	push(t, n, []byte("abc"), 0, api.OK)
	push(t, n, nil, 3, api.OK)
	push(t, n, []byte("d"), 3, api.OK)
	push(t, n, make([]byte, 65), 0, api.ErrLong)
	next(t, n, []byte("abc"), 0)
	take(t, n)
	next(t, n, nil, 3)
	take(t, n)
	next(t, n, []byte("d"), 3)
	if n.Waits() != 1 {
		t.Errorf("Waits is %d", n.Waits())
	}
	send(t, n, []byte("xy"), 0, api.OK)
	send(t, n, []byte("z"), 2, api.OK)
	holds(t, n, byHand{came: list("abc", "", "d"), sent: list("xy", "z"), taken: 2})
}

// TestEachLength: a packet of each length that may be, none and the longest included, comes and is sent whole.
func TestEachLength(t *testing.T) { // P9.1, P9.2
	n, h, at := New(), byHand{}, 0
	for length := range api.MaxPacket + 1 {
		p := counted(length, length)
		push(t, n, p, at, api.OK)
		send(t, n, p, at, api.OK)
		h.came, h.sent = append(h.came, p), append(h.sent, p)
		at += length
	}
	holds(t, n, h)
	for length := range api.MaxPacket + 1 {
		alone := New()
		push(t, alone, counted(length, length), 0, api.OK)
		holds(t, alone, byHand{came: [][]byte{counted(length, length)}})
	}
}

// TestTooLong: a packet that is too long neither comes nor is sent, in whole or in part, and does not count.
func TestTooLong(t *testing.T) { // P9.1, P9.2
	for _, h := range []byHand{{}, {came: list("ab"), sent: list("c")}, {came: list("ab", "", "c"), sent: list("", "d"), taken: 1}} {
		n := made(h)
		was := n.Copy()
		for _, length := range []int{65, 66, 127, 128, 129, 256, 257, 1 << 16, 1 << 20} {
			push(t, n, make([]byte, length), 0, api.ErrLong)
			send(t, n, make([]byte, length), 0, api.ErrLong)
		}
		holds(t, n, h)
		if !Same(n, was) {
			t.Error("a packet that was refused changed something")
		}
		push(t, n, make([]byte, 64), byteCount(h.came), api.OK)
		send(t, n, make([]byte, 64), byteCount(h.sent), api.OK)
	}
}

// TestPacketsWithoutBytes: they wait, are told and taken each by itself, and have the number of the next byte to come.
func TestPacketsWithoutBytes(t *testing.T) { // P9.1, P9.2, P9.4
	n := New()
	for _, none := range [][]byte{nil, {}, make([]byte, 0, 9)} {
		push(t, n, none, 0, api.OK)
		send(t, n, none, 0, api.OK)
	}
	holds(t, n, byHand{came: list("", "", ""), sent: list("", "", "")})
	push(t, n, []byte("ab"), 0, api.OK)
	push(t, n, nil, 2, api.OK)
	send(t, n, []byte("c"), 0, api.OK)
	send(t, n, nil, 1, api.OK)
	h := byHand{came: list("", "", "", "ab", ""), sent: list("", "", "", "c", "")}
	holds(t, n, h)
	for h.taken < len(h.came) {
		take(t, n)
		h.taken++
		holds(t, n, h)
	}
	takeNone(t, n)
	push(t, n, nil, 2, api.OK)
	next(t, n, nil, 2)
}

// TestAsManyAsMayWait: one more does not come, of whatever length; where one is taken, just one more comes.
func TestAsManyAsMayWait(t *testing.T) { // P9.1, P9.4
	for _, length := range []int{0, 1, api.MaxPacket} {
		n, h := New(), byHand{}
		for at := range api.MaxWaits {
			push(t, n, counted(at, length), at*length, api.OK)
			h.came = append(h.came, counted(at, length))
		}
		full := func() {
			t.Helper()
			for _, over := range []int{0, 1, api.MaxPacket, api.MaxPacket + 1} {
				push(t, n, make([]byte, over), 0, api.ErrLong)
			}
			tells(t, n, h)
		}
		full()
		for more := range 3 {
			take(t, n)
			h.taken++
			push(t, n, make([]byte, api.MaxPacket+1), 0, api.ErrLong)
			push(t, n, []byte{byte(more)}, byteCount(h.came), api.OK)
			h.came = append(h.came, []byte{byte(more)})
			full()
		}
		holds(t, n, h)
	}
}

// TestSendIsNotBoundByWhatWaits: as many may be sent as one likes, be the queue full or not.
func TestSendIsNotBoundByWhatWaits(t *testing.T) { // P9.2
	n, h := New(), byHand{}
	for range api.MaxWaits {
		push(t, n, nil, 0, api.OK)
		h.came = append(h.came, nil)
	}
	for at := range 3 * api.MaxWaits {
		send(t, n, counted(at, 2), 2*at, api.OK)
		h.sent = append(h.sent, counted(at, 2))
	}
	tells(t, n, h)
	push(t, n, nil, 0, api.ErrLong)
}

// TestTakeWhereNoneWaits: nothing is changed by it, and the numbers go on.
func TestTakeWhereNoneWaits(t *testing.T) { // P9.1, P9.4
	n := New()
	takeNone(t, n)
	takeNone(t, n)
	push(t, n, []byte("abc"), 0, api.OK)
	take(t, n)
	was := n.Copy()
	for range 3 {
		takeNone(t, n)
		nextNone(t, n)
	}
	if !Same(n, was) {
		t.Error("Take changed something, though none waits")
	}
	push(t, n, []byte("d"), 3, api.OK)
	holds(t, n, byHand{came: list("abc", "d"), taken: 1})
}

// TestWhatWasTakenIsNotKept: looked at from within, as no call tells it any more.
func TestWhatWasTakenIsNotKept(t *testing.T) { // P9.1
	n := made(byHand{came: list("ab", "c")})
	room := n.came.packets
	take(t, n)
	if room[0].content != nil || string(room[1].content) != "c" {
		t.Errorf("what is kept is %v", room)
	}
}

// TestNextTakesNothing: it tells the same one till that is taken.
func TestNextTakesNothing(t *testing.T) { // P9.1
	n := made(byHand{came: list("x", "ab", "c"), taken: 1})
	for range 3 {
		next(t, n, []byte("ab"), 1)
		holds(t, n, byHand{came: list("x", "ab", "c"), taken: 1})
	}
	push(t, n, []byte("d"), 4, api.OK)
	next(t, n, []byte("ab"), 1)
}

// TestTakenAndPushedBehind: what is pushed behind a packet that was taken waits behind all others, and is numbered behind all that ever came.
func TestTakenAndPushedBehind(t *testing.T) { // P9.1, P9.2, P9.4
	n := New()
	push(t, n, []byte("abc"), 0, api.OK)
	push(t, n, []byte("de"), 3, api.OK)
	take(t, n)
	push(t, n, []byte("f"), 5, api.OK)
	holds(t, n, byHand{came: list("abc", "de", "f"), taken: 1})
	take(t, n)
	take(t, n)
	push(t, n, []byte("gh"), 6, api.OK)
	holds(t, n, byHand{came: list("abc", "de", "f", "gh"), taken: 3})
}

// TestNumbersGoOn: what was taken counts on, beyond what may wait at one time; what came does not count among what was sent.
func TestNumbersGoOn(t *testing.T) { // P9.1, P9.2, P9.4
	n, at, sent := New(), 0, 0
	for round := range 40 {
		many, length := 1+round*31%api.MaxWaits, round*7%(api.MaxPacket+1)
		for p := range many {
			push(t, n, counted(p, length), at+p*length, api.OK)
		}
		push(t, n, make([]byte, api.MaxPacket+1), 0, api.ErrLong)
		for p := range many {
			next(t, n, counted(p, length), at+p*length)
			take(t, n)
		}
		takeNone(t, n)
		at += many * length
		send(t, n, counted(round, round), sent, api.OK)
		sent += round
		if gotCame, gotSent := n.Count(); gotCame != at || gotSent != sent {
			t.Errorf("Count is %d, %d, not %d, %d", gotCame, gotSent, at, sent)
		}
	}
	if at <= api.MaxWaits*api.MaxPacket {
		t.Errorf("%d bytes are too few for this test", at)
	}
}

// TestWhatCameIsNotSent: the two ways have nothing to do with each other.
func TestWhatCameIsNotSent(t *testing.T) { // P9.2
	n := New()
	push(t, n, []byte("abc"), 0, api.OK)
	holds(t, n, byHand{came: list("abc")})
	send(t, n, []byte("d"), 0, api.OK)
	push(t, n, []byte("ef"), 3, api.OK)
	send(t, n, []byte("ghi"), 1, api.OK)
	holds(t, n, byHand{came: list("abc", "ef"), sent: list("d", "ghi")})
	take(t, n)
	take(t, n)
	holds(t, n, byHand{came: list("abc", "ef"), sent: list("d", "ghi"), taken: 2})
}

// TestPacketsHandedInAreNotKept: what is handed in is neither kept nor changed, spare room behind it included.
func TestPacketsHandedInAreNotKept(t *testing.T) { // P9.1, P9.2
	room := []byte("abcdefgh")
	n := New()
	push(t, n, room[1:3], 0, api.OK)
	push(t, n, room[:0], 2, api.OK)
	push(t, n, room[2:4], 2, api.OK)
	send(t, n, room[5:6], 0, api.OK)
	send(t, n, room[:3], 1, api.OK)
	take(t, n)
	h := byHand{came: list("bc", "", "cd"), sent: list("f", "abc"), taken: 1}
	holds(t, n, h)
	if string(room) != "abcdefgh" {
		t.Errorf("what was handed in is %q now", room)
	}
	clear(room)
	holds(t, n, h)
}

// spoil changes all that an answer has, spare room behind its packets and behind its list included.
func spoil(packets [][]byte) {
	for at, p := range packets {
		clear(p[:cap(p)])
		packets[at] = append(p, "spoilt"...)
	}
	clear(packets[:cap(packets)])
}

// TestAnswersAreNewMemory: answers that are changed change neither the net, nor each other, nor what else they have.
func TestAnswersAreNewMemory(t *testing.T) { // P9.1, P9.2
	h := byHand{came: list("w", "abc", "", "de"), sent: list("xyz", "", "q"), taken: 1}
	n := made(h)
	queue, sent, then := n.Queue(), n.Sent(), n.Copy()
	first, _, _ := n.Next()
	spoil(n.Queue())
	spoil(n.Sent())
	other, _, _ := n.Next()
	spoil([][]byte{other})
	holds(t, n, h)
	if string(first) != "abc" {
		t.Errorf("two answers of Next share bytes: %q", first)
	}
	for _, packets := range [][][]byte{queue, sent} {
		was := string(packets[2])
		_ = append(packets[0], "spoilt"...)
		_ = append(packets[1], "spoilt"...)
		if string(packets[2]) != was {
			t.Errorf("packets of an answer share memory: %q", packets[2])
		}
	}
	if !slices.EqualFunc(queue, h.came[1:], bytes.Equal) || !slices.EqualFunc(sent, h.sent, bytes.Equal) {
		t.Errorf("answers are %v and %v now", queue, sent)
	}
	take(t, n)
	push(t, n, []byte("new"), 6, api.OK)
	send(t, n, []byte("new"), 4, api.OK)
	if !slices.EqualFunc(queue, h.came[1:], bytes.Equal) || !slices.EqualFunc(sent, h.sent, bytes.Equal) {
		t.Errorf("answers have what came later: %v, %v", queue, sent)
	}
	holds(t, then, h)
}

func TestCopyGoesOnApart(t *testing.T) { // P9.3
	for _, h := range []byHand{
		{},
		{came: list("abc")},
		{came: list("abc", ""), taken: 2},
		{sent: list("x", "", "yz")},
		{came: list("a", "bc", "", "def", "g"), sent: list("xy", "z", ""), taken: 2},
	} {
		n := made(h)
		other := n.Copy()
		if other == nil || other == n || !Same(n, other) {
			t.Fatal("the copy is not another one that stands alike")
		}
		holds(t, other, h)
		mine, its := h, h
		for round := range 3 {
			mine.came, mine.sent = goOn(t, n, mine, counted(round, 2)), append(slices.Clone(mine.sent), counted(round, 2))
			its.came, its.sent = goOn(t, other, its, counted(90+round, 3)), append(slices.Clone(its.sent), counted(90+round, 3))
			holds(t, n, mine)
			holds(t, other, its)
		}
		if n.Take() {
			mine.taken++
		}
		holds(t, n, mine)
		holds(t, other, its)
		if Same(n, other) {
			t.Error("Same of others")
		}
	}
}

// goOn lets a packet come and sends it: what came then.
func goOn(t *testing.T, n *Net, h byHand, p []byte) [][]byte {
	t.Helper()
	push(t, n, p, byteCount(h.came), api.OK)
	send(t, n, p, byteCount(h.sent), api.OK)
	return append(slices.Clone(h.came), p)
}

// TestCopyIsNewMemory: looked at from within, as no call changes a packet's bytes.
func TestCopyIsNewMemory(t *testing.T) { // P9.3
	h := byHand{came: list("ab", "c"), sent: list("def")}
	n := made(h)
	other := n.Copy()
	for _, p := range slices.Concat(other.came.packets, other.sent.packets) {
		clear(p.content)
	}
	holds(t, n, h)
}

// TestCopyOfAFullOne: a copy is as full; what is taken of the one leaves no room in the other.
func TestCopyOfAFullOne(t *testing.T) { // P9.3
	n := New()
	for range api.MaxWaits {
		push(t, n, nil, 0, api.OK)
	}
	other := n.Copy()
	take(t, n)
	push(t, other, nil, 0, api.ErrLong)
	push(t, n, nil, 0, api.OK)
	take(t, other)
	push(t, n, nil, 0, api.ErrLong)
	push(t, other, nil, 0, api.OK)
}

func TestSame(t *testing.T) { // P9.3
	base := byHand{came: list("ab", "c", "", "def"), sent: list("x", "yz"), taken: 1}
	for name, row := range map[string]struct {
		other  byHand
		wanted bool
	}{
		"the same":                 {base, true},
		"others were taken":        {byHand{list("zz", "c", "", "def"), base.sent, 1}, true},
		"taken in other pieces":    {byHand{list("a", "", "b", "c", "", "def"), base.sent, 3}, true},
		"one more was taken":       {byHand{base.came, base.sent, 2}, false},
		"none was taken":           {byHand{base.came, base.sent, 0}, false},
		"one less came":            {byHand{list("ab", "c", ""), base.sent, 1}, false},
		"one without bytes more":   {byHand{list("ab", "c", "", "def", ""), base.sent, 1}, false},
		"one without bytes less":   {byHand{list("ab", "c", "def"), base.sent, 1}, false},
		"more came, taken":         {byHand{list("abc", "c", "", "def"), base.sent, 1}, false},
		"fewer came, taken":        {byHand{list("a", "c", "", "def"), base.sent, 1}, false},
		"another byte":             {byHand{list("ab", "c", "", "dEf"), base.sent, 1}, false},
		"another first byte":       {byHand{list("ab", "C", "", "def"), base.sent, 1}, false},
		"cut otherwise":            {byHand{list("ab", "cd", "", "ef"), base.sent, 1}, false},
		"in another order":         {byHand{list("ab", "", "c", "def"), base.sent, 1}, false},
		"sent another byte":        {byHand{base.came, list("x", "yZ"), 1}, false},
		"sent in another order":    {byHand{base.came, list("yz", "x"), 1}, false},
		"sent, cut otherwise":      {byHand{base.came, list("xy", "z"), 1}, false},
		"sent one less":            {byHand{base.came, list("x"), 1}, false},
		"sent one more":            {byHand{base.came, list("x", "yz", "0"), 1}, false},
		"sent one without bytes":   {byHand{base.came, list("x", "yz", ""), 1}, false},
		"nothing":                  {byHand{}, false},
		"what waits, sent instead": {byHand{nil, list("c", "", "def"), 0}, false},
	} {
		a, b := made(base), made(row.other)
		if Same(a, b) != row.wanted || Same(b, a) != row.wanted {
			t.Errorf("%s: Same is not %t", name, row.wanted)
		}
	}
	if n := New(); !Same(n, n) || !Same(n, New()) {
		t.Error("nets without packets are not alike")
	}
}

// TestSameLooksAtCount: where none waits and none was sent, how many bytes came is seen alone.
func TestSameLooksAtCount(t *testing.T) { // P9.3
	came, other := made(byHand{came: list("ab"), taken: 1}), made(byHand{came: list("abc"), taken: 1})
	if Same(came, New()) || Same(New(), came) || Same(came, other) {
		t.Error("Same, though others came")
	}
	if empty := made(byHand{came: list("", ""), taken: 2}); !Same(empty, New()) || !Same(New(), empty) {
		t.Error("not Same, though what was taken had no bytes")
	}
	if none, empty := made(byHand{came: [][]byte{nil}, sent: [][]byte{nil}}), made(byHand{came: [][]byte{{}}, sent: [][]byte{{}}}); !Same(none, empty) {
		t.Error("nil and empty packets are not alike")
	}
}

// TestSameLooksAtEachByte: one other byte anywhere is seen.
func TestSameLooksAtEachByte(t *testing.T) { // P9.3
	base := byHand{came: [][]byte{counted(0, 64), counted(9, 5)}, sent: [][]byte{counted(7, 64), counted(1, 3)}}
	n := made(base)
	for which := range 2 {
		for at := range base.came[which] {
			other := byHand{came: [][]byte{counted(0, 64), counted(9, 5)}, sent: base.sent}
			other.came[which][at] ^= 128
			if o := made(other); Same(n, o) || Same(o, n) {
				t.Errorf("Same, though byte %d of what waits is another", at)
			}
		}
		for at := range base.sent[which] {
			other := byHand{came: base.came, sent: [][]byte{counted(7, 64), counted(1, 3)}}
			other.sent[which][at] ^= 1
			if o := made(other); Same(n, o) || Same(o, n) {
				t.Errorf("Same, though byte %d of what was sent is another", at)
			}
		}
	}
}

// steady tells numbers by a fixed rule, so that every run sees the same ones.
func steady(seed uint32) func(below int) int {
	return func(below int) int {
		seed = seed*1664525 + 1013904223
		return int(seed>>8) % below
	}
}

// TestAgainstListsByHand: packets that come, are taken and are sent, and such as are refused, mixed with copies, leave what lists by hand have.
func TestAgainstListsByHand(t *testing.T) { // P9.1 to P9.4
	for seed := range uint32(6) {
		below := steady(seed)
		n, h := New(), byHand{}
		for turn := range 1500 {
			p := counted(turn, below(api.MaxPacket+4))
			fits := len(p) <= api.MaxPacket
			switch below(8) {
			case 0, 1, 2, 3:
				if fits && len(h.came)-h.taken < api.MaxWaits {
					push(t, n, p, byteCount(h.came), api.OK)
					h.came = append(h.came, p)
				} else {
					push(t, n, p, 0, api.ErrLong)
				}
			case 4, 5:
				if n.Take() != (h.taken < len(h.came)) {
					t.Fatalf("turn %d: Take is not as by hand", turn)
				}
				h.taken = min(h.taken+1, len(h.came))
			case 6:
				if fits {
					send(t, n, p, byteCount(h.sent), api.OK)
					h.sent = append(h.sent, p)
				} else {
					send(t, n, p, 0, api.ErrLong)
				}
			case 7:
				n = n.Copy()
			}
			if turn%25 == 0 {
				tells(t, n, h)
			}
		}
		holds(t, n, h)
		if !Same(n, made(h)) {
			t.Error("not Same as one made of the lists")
		}
	}
}
