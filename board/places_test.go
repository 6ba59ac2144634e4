package board

import (
	"slices"
	"testing"

	"pomander/api"
	"pomander/cpu"
	"pomander/disk"
	"pomander/frames"
	"pomander/lines"
	"pomander/net"
	"pomander/tlb"
)

// parts are what a board has, as plain lists; the numbers of what waits begin with taken and gone.
type parts struct {
	memory, disk, queue, told []byte
	packets, sent             [][]byte
	taken, gone               int
	slots                     []api.Entry
	state                     api.State
	answers                   [asks]uint32
}

func partsOf(b *Board) parts {
	p := parts{memory: b.Memory(), disk: b.Disk(), queue: b.lines.Queue(), told: b.Told(), packets: b.net.Queue(), sent: b.Sent(), slots: b.tlb.All(), state: b.state, answers: b.answers}
	next, _ := b.lines.Copy().Push(nil)
	p.taken = next - len(p.queue)
	came, _ := b.net.Count()
	p.gone = came - len(slices.Concat(p.packets...))
	return p
}

// board makes one of the parts; what is no place is as that of another one.
func (p parts) board(as *Board) *Board {
	b := as.Copy()
	b.memory, _ = frames.Of(p.memory)
	b.disk, _ = disk.Of(p.disk)
	b.state, b.answers = p.state, p.answers
	b.lines, b.net, b.tlb = lines.New(), net.New(), tlb.New()
	for range p.taken {
		b.lines.Push([]byte{0})
		b.lines.Take()
	}
	b.lines.Push(p.queue)
	for _, told := range p.told {
		b.lines.Tell(told)
	}
	b.lines.SetAlarm(as.lines.Alarm())
	b.lines.SetMask(as.lines.Mask())
	b.lines.Raise(2, as.lines.Raised(2))
	b.lines.Raise(3, as.lines.Raised(3))
	for range p.gone {
		b.net.Push([]byte{0})
		b.net.Take()
	}
	for _, packet := range p.packets {
		b.net.Push(packet)
	}
	for _, packet := range p.sent {
		b.net.Send(packet)
	}
	for n := range as.tlb.Next() {
		b.tlb.Fill(api.Entry{Page: uint32(1000 + n)})
	}
	for n := range p.slots {
		slot := (as.tlb.Next() + n) % len(p.slots)
		e := p.slots[slot]
		if !e.There {
			e.Page = uint32(2000 + n)
		}
		if b.tlb.Fill(e); !p.slots[slot].There {
			b.tlb.Drop(e.Page)
		}
	}
	return b
}

// content is what stands in a place.
type content struct {
	value uint32
	entry api.Entry
}

// places are all places of a board, with what stands there; of what waits just that.
func places(b *Board) map[api.Place]content {
	all, p := map[api.Place]content{}, partsOf(b)
	put := func(kind api.PlaceKind, n int, value uint32) {
		all[api.Place{Kind: kind, N: n}] = content{value: value}
	}
	row := func(kind api.PlaceKind, first int, list []byte) {
		for n, one := range list {
			put(kind, first+n, uint32(one))
		}
	}
	s := p.state
	for n, value := range s.Regs {
		put(api.PlaceReg, n, value)
	}
	put(api.PlacePc, 0, s.Pc)
	put(api.PlaceEpc, 0, s.Epc)
	put(api.PlaceCause, 0, s.Cause)
	put(api.PlaceVec, 0, s.Vec)
	put(api.PlaceTable, 0, s.Table)
	put(api.PlaceMode, 0, cpu.Status(s))
	put(api.PlaceMask, 0, b.lines.Mask())
	put(api.PlaceAlarm, 0, b.lines.Alarm())
	put(api.PlaceAsk, 0, p.answers[0])
	put(api.PlaceAsk, 1, p.answers[1])
	row(api.PlaceMem, 0, p.memory)
	row(api.PlaceSector, 0, p.disk)
	row(api.PlaceIn, p.taken, p.queue)
	row(api.PlaceOut, 0, p.told)
	row(api.PlacePacket, p.gone, slices.Concat(p.packets...))
	row(api.PlaceSent, 0, slices.Concat(p.sent...))
	for n, e := range p.slots {
		all[api.Place{Kind: api.PlaceTlb, N: n}] = content{entry: e}
	}
	return all
}

// waits tells whether a place is of what waits.
func waits(p api.Place) bool { return p.Kind == api.PlaceIn || p.Kind == api.PlacePacket }

// somewhere is a board in the midst of things, to which something came.
func somewhere(t *testing.T, next func(uint32) uint32) *Board {
	b := anyBoard(t, next)
	b.answers = [asks]uint32{next(2), next(64)}
	for range next(4) {
		b.Step()
		b.Type(counted(int(next(256)), int(next(3))))
		b.Send(counted(int(next(256)), int(next(9))))
	}
	for range next(3) {
		b.lines.Tell(byte(next(256)))
		b.net.Send(counted(int(next(256)), int(next(4))))
	}
	if b.state.Pc%4 == 0 && b.has(b.state.Pc, 4) {
		switch next(4) {
		case 0:
			anyCommand(t, next, b)
		case 1:
			i := [...]api.Inst{inst(api.OpIn, 0, 0, 0), inst(api.OpGet, 0, 0, int(next(6))), inst(api.OpIn, 0, 0, 6+2*int(next(2)))}[next(3)]
			i.A = int(next(8))
			lay(t, b, int(b.state.Pc), encoded(t, i))
		}
	}
	return b
}

// P11.4: a step changes no place to which none of its touches goes.
func TestChangesAreTouched(t *testing.T) {
	next, changes := steady(13), map[api.PlaceKind]int{}
	for range 3000 {
		b := somewhere(t, next)
		ahead := places(b)
		x, _ := b.Step()
		touched := map[api.Place]bool{}
		for _, touch := range x.Touches {
			touched[touch.To] = true
		}
		behind := places(b)
		for p, there := range behind {
			was, is := ahead[p]
			if is && was == there || waits(p) {
				continue
			}
			changes[p.Kind]++
			if !touched[p] {
				t.Errorf("%v changes %v to %v, and is not told by %s", x, named(p), there, text(x.Touches))
			}
		}
		for p := range ahead {
			if _, is := behind[p]; !is && !waits(p) {
				t.Errorf("%v is gone", named(p))
			}
		}
	}
	for kind := api.PlaceReg; kind <= api.PlaceAsk; kind++ {
		if changes[kind] == 0 && !waits(api.Place{Kind: kind}) {
			t.Errorf("no place of the kind %d was changed", kind)
		}
	}
}

// another is a board with other things in one place; nil where that always decides.
func another(b *Board, place api.Place, next func(uint32) uint32) *Board {
	p, other := partsOf(b), 1+next(255)
	word := func(w *uint32) { *w ^= other << (8 * next(4)) }
	byteAt := func(list []byte, n int) { list[n] ^= byte(other) }
	within := func(list [][]byte, n int) {
		for _, packet := range list {
			if n >= 0 && n < len(packet) {
				byteAt(packet, n)
			}
			n -= len(packet)
		}
	}
	switch place.Kind {
	case api.PlaceReg:
		word(&p.state.Regs[place.N])
	case api.PlaceEpc:
		word(&p.state.Epc)
	case api.PlaceCause:
		word(&p.state.Cause)
	case api.PlaceVec:
		word(&p.state.Vec)
	case api.PlaceTable:
		word(&p.state.Table)
	case api.PlaceMem:
		byteAt(p.memory, place.N)
	case api.PlaceTlb:
		p.slots[place.N] = anotherEntry(p, place.N, next)
	case api.PlaceSector:
		byteAt(p.disk, place.N)
	case api.PlaceIn:
		byteAt(p.queue, place.N-p.taken)
	case api.PlaceOut:
		byteAt(p.told, place.N)
	case api.PlacePacket:
		within(p.packets, place.N-p.gone)
	case api.PlaceSent:
		within(p.sent, place.N)
	case api.PlaceAsk:
		word(&p.answers[place.N])
	default:
		return nil
	}
	return p.board(b)
}

// anotherEntry is one of a page that no other slot has, or none.
func anotherEntry(p parts, slot int, next func(uint32) uint32) api.Entry {
	e := api.Entry{There: true, Page: next(16), Frame: next(uint32(len(p.memory) / 64)), Write: next(2) == 0}
	for n, known := range p.slots {
		if n != slot && known.There && known.Page == e.Page {
			return api.Entry{}
		}
	}
	return e
}

// decides tells whether a place does, in some touch.
func decides(l []api.Touch, p api.Place) bool {
	return slices.ContainsFunc(l, func(touch api.Touch) bool { return touch.To == api.Place{} && slices.Contains(touch.From, p) })
}

// leads tells whether what stood in a place may be told from what stands in another one behind the touches.
func leads(l []api.Touch, from, to api.Place) bool {
	is := from == to
	for _, touch := range l {
		if touch.To == to {
			is = slices.Contains(touch.From, from)
		}
	}
	return is
}

// anyPlace is one of a board's; mostly one of those that its next step is about, and else of any kind as likely as of any other.
func anyPlace(b *Board, next func(uint32) uint32) api.Place {
	var all []api.Place
	if next(3) > 0 {
		x, _ := b.Copy().Step()
		for _, touch := range x.Touches {
			if touch.To != (api.Place{}) {
				all = append(append(all, touch.From...), touch.To)
			}
		}
	}
	there := places(b)
	all = slices.DeleteFunc(all, func(p api.Place) bool {
		_, is := there[p]
		return !is || p.Kind == api.PlacePc || p.Kind == api.PlaceMode
	})
	if len(all) == 0 {
		kind := api.PlaceKind(1 + next(uint32(api.PlaceAsk)))
		for p := range there {
			if p.Kind == kind {
				all = append(all, p)
			}
		}
		if len(all) == 0 {
			return api.Place{Kind: api.PlaceEpc}
		}
		slices.SortFunc(all, func(a, b api.Place) int { return a.N - b.N })
	}
	return all[next(uint32(len(all)))]
}

// P11.5: what stands in a place that does not decide comes just where touches lead from there.
func TestWhatDoesNotDecideComesNowhereElse(t *testing.T) {
	next, tried, came := steady(14), map[api.PlaceKind]int{}, map[api.PlaceKind]int{}
	for range 6000 {
		one := somewhere(t, next)
		place := anyPlace(one, next)
		two := another(one, place, next)
		if two == nil {
			continue
		}
		x, _ := one.Step()
		y, _ := two.Step()
		if decides(x.Touches, place) || decides(y.Touches, place) {
			continue
		}
		tried[place.Kind]++
		if x.Kind != y.Kind || x.Pc != y.Pc || x.Word != y.Word || x.Cause != y.Cause || text(x.Touches) != text(y.Touches) {
			t.Fatalf("another %s makes of %v %v", named(place), x, y)
		}
		there, other := places(one), places(two)
		for p, content := range there {
			if other[p] != content && !leads(x.Touches, place, p) {
				t.Fatalf("another %s makes another %s by %s", named(place), named(p), text(x.Touches))
			}
			if other[p] != content && p != place {
				came[place.Kind]++
			}
		}
		if len(there) != len(other) || !Same(one, partsOf(one).board(two)) {
			t.Fatalf("another %s makes what is no place another", named(place))
		}
	}
	for kind := api.PlaceReg; kind <= api.PlaceAsk; kind++ {
		always := kind == api.PlacePc || kind == api.PlaceMode || kind == api.PlaceMask || kind == api.PlaceAlarm
		if tried[kind] == 0 && !always {
			t.Errorf("no other place of the kind %d was tried", kind)
		}
	}
	for _, kind := range []api.PlaceKind{api.PlaceReg, api.PlaceEpc, api.PlaceCause, api.PlaceMem, api.PlaceSector, api.PlaceIn, api.PlacePacket, api.PlaceAsk} {
		if came[kind] == 0 {
			t.Errorf("nothing came from another place of the kind %d", kind)
		}
	}
}
