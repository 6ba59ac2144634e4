package tlb

import (
	"math"
	"slices"
	"testing"

	"pomander/api"
)

// noTlbs are TLBs that New did not make: their answers are those of none.
func noTlbs() map[string]*Tlb { return map[string]*Tlb{"nil": nil, "zero": {}} }

// somePages are pages near 0, near where a number with a sign turns, and near the highest word.
var somePages = []uint32{0, 1, 2, 3, 4, 5, 7, 8, 15, 16, 63, 1<<31 - 1, 1 << 31, math.MaxUint32 - 1, math.MaxUint32}

// entryOf is an entry of a page, whose frame, and whether it may be written, hang on the page.
func entryOf(page uint32) api.Entry {
	return api.Entry{There: true, Page: page, Frame: page*3 + 1, Write: page%2 == 1}
}

// filled is a TLB that such entries of pages were filled into.
func filled(pages ...uint32) *Tlb {
	t := New()
	for _, page := range pages {
		t.Fill(entryOf(page))
	}
	return t
}

// slotsOf is what all slots have, if the first ones have these and the others none.
func slotsOf(entries ...api.Entry) []api.Entry {
	return append(entries, make([]api.Entry, api.Entries-len(entries))...)
}

// told is a slot and its entry, as Walked tells them.
type told struct {
	slot  int
	entry api.Entry
}

func walked(each func(func(int, api.Entry) bool)) []told {
	var list []told
	for slot, e := range each {
		list = append(list, told{slot, e})
	}
	return list
}

// toldOf are the slots that have entries, by hand.
func toldOf(slots []api.Entry) []told {
	var list []told
	for slot, e := range slots {
		if e.There {
			list = append(list, told{slot, e})
		}
	}
	return list
}

func missing(t *testing.T, c *Tlb, page uint32) {
	t.Helper()
	if e, slot, is := c.Look(page); e != (api.Entry{}) || slot != 0 || is {
		t.Errorf("Look(%d) is %v, %d, %t, though there is none", page, e, slot, is)
	}
}

// holds fails where a TLB has other slots than these, another next slot, or tells them otherwise in one of its calls.
func holds(t *testing.T, c *Tlb, next int, slots []api.Entry) {
	t.Helper()
	if got := c.All(); !slices.Equal(got, slots) {
		t.Errorf("All is %v, not %v", got, slots)
	}
	if got := c.Next(); got != next {
		t.Errorf("Next is %d, not %d", got, next)
	}
	wanted := toldOf(slots)
	if got := walked(c.Walked()); !slices.Equal(got, wanted) {
		t.Errorf("Walked is %v, not %v", got, wanted)
	}
	has := map[uint32]int{}
	for _, x := range wanted {
		has[x.entry.Page]++
		if e, slot, is := c.Look(x.entry.Page); e != x.entry || slot != x.slot || !is {
			t.Errorf("Look(%d) is %v, %d, %t, not %v in %d", x.entry.Page, e, slot, is, x.entry, x.slot)
		}
	}
	if len(has) != len(wanted) {
		t.Errorf("of two slots one has the other's page: %v", wanted)
	}
	for _, page := range somePages {
		if has[page] == 0 {
			missing(t, c, page)
		}
	}
}

func fill(t *testing.T, c *Tlb, e api.Entry, wanted int) {
	t.Helper()
	if slot := c.Fill(e); slot != wanted {
		t.Errorf("Fill(%v) is %d, not %d", e, slot, wanted)
	}
}

func drop(t *testing.T, c *Tlb, page uint32, wanted bool) {
	t.Helper()
	if had := c.Drop(page); had != wanted {
		t.Errorf("Drop(%d) is %t", page, had)
	}
}

func TestNew(t *testing.T) { // P6.1
	c := New()
	if c == nil {
		t.Fatal("New is nil")
	}
	holds(t, c, 0, slotsOf())
	if c.Walked() == nil {
		t.Error("Walked is nil")
	}
	fill(t, New(), entryOf(7), 0)
	holds(t, New(), 0, slotsOf())
}

func TestNoTlb(t *testing.T) { // P6.1, P6.2, P6.3
	for name, c := range noTlbs() {
		for _, page := range somePages {
			fill(t, c, entryOf(page), 0)
			missing(t, c, page)
			drop(t, c, page, false)
		}
		c.Flush()
		fill(t, c, entryOf(7), 0)
		missing(t, c, 7)
		if c.Next() != 0 || len(c.All()) != 0 || c.Copy() != nil {
			t.Errorf("%s: Next %d, All %v, Copy %v", name, c.Next(), c.All(), c.Copy())
		}
		if each := c.Walked(); each == nil || len(walked(each)) != 0 {
			t.Errorf("%s: Walked is none, or tells something", name)
		}
		for _, other := range noTlbs() {
			if !Same(c, other) {
				t.Errorf("%s: none are not like none", name)
			}
		}
		for _, made := range []*Tlb{New(), filled(0), filled(1, 2, 3, 4)} {
			if Same(c, made) || Same(made, c) {
				t.Errorf("%s: none is like one that is there", name)
			}
		}
	}
}

func TestExamples(t *testing.T) { // P6.1, P6.2
	c := New()
	fill(t, c, api.Entry{Page: 7, Frame: 1, Write: true}, 0)
	fill(t, c, api.Entry{Page: 8, Frame: 2}, 1)
	fill(t, c, api.Entry{Page: 7, Frame: 3}, 0)
	holds(t, c, 2, slotsOf(api.Entry{There: true, Page: 7, Frame: 3}, api.Entry{There: true, Page: 8, Frame: 2}))
	missing(t, c, 9)
	fill(t, c, entryOf(1), 2)
	fill(t, c, entryOf(2), 3)
	fill(t, c, entryOf(3), 0)
	missing(t, c, 7)
	holds(t, c, 1, slotsOf(entryOf(3), api.Entry{There: true, Page: 8, Frame: 2}, entryOf(1), entryOf(2)))
	drop(t, c, 8, true)
	c.Flush()
	holds(t, c, 0, slotsOf())
}

// TestSlotsInTurn: each page has the next slot, the first one behind the last one, over and over.
func TestSlotsInTurn(t *testing.T) { // P6.1, P6.2
	c := New()
	wanted := slotsOf()
	for page := range uint32(3*api.Entries + 1) {
		slot := int(page) % api.Entries
		fill(t, c, entryOf(page), slot)
		wanted[slot] = entryOf(page)
		holds(t, c, (slot+1)%api.Entries, wanted)
	}
}

func TestLookAtFirstAndLastSlot(t *testing.T) { // P6.1
	c := filled(10, 11, 12, 13)
	for _, x := range []told{{0, entryOf(10)}, {3, entryOf(13)}} {
		if e, slot, is := c.Look(x.entry.Page); e != x.entry || slot != x.slot || !is {
			t.Errorf("Look(%d) is %v, %d, %t", x.entry.Page, e, slot, is)
		}
	}
	for _, page := range []uint32{0, 9, 14, 10 + 1<<31, math.MaxUint32} {
		missing(t, c, page)
		drop(t, c, page, false)
	}
	holds(t, c, 0, slotsOf(entryOf(10), entryOf(11), entryOf(12), entryOf(13)))
}

// TestPageNought: a slot that has no entry is not one of the page 0.
func TestPageNought(t *testing.T) { // P6.1, P6.2
	c := New()
	missing(t, c, 0)
	drop(t, c, 0, false)
	fill(t, c, entryOf(5), 0)
	missing(t, c, 0)
	fill(t, c, api.Entry{}, 1)
	holds(t, c, 2, slotsOf(entryOf(5), api.Entry{There: true}))
	fill(t, c, api.Entry{Write: true}, 1)
	holds(t, c, 2, slotsOf(entryOf(5), api.Entry{There: true, Write: true}))
	drop(t, c, 0, true)
	drop(t, c, 0, false)
	holds(t, c, 2, slotsOf(entryOf(5)))
}

// TestAnyEntry: whatever is filled is looked up, each bit of it; whether it says There or not is all the same.
func TestAnyEntry(t *testing.T) { // P6.2, P6.4
	for _, page := range somePages {
		for _, frame := range []uint32{0, 1, 31, 32, 1 << 23, 1 << 24, 1 << 31, math.MaxUint32} {
			for _, write := range []bool{false, true} {
				for _, says := range []bool{false, true} {
					c := filled(6)
					fill(t, c, api.Entry{There: says, Page: page, Frame: frame, Write: write}, 1)
					holds(t, c, 2, slotsOf(entryOf(6), api.Entry{There: true, Page: page, Frame: frame, Write: write}))
				}
			}
		}
	}
}

// TestFillOfAPageThatIsThere: its slot has the new entry as a whole, and the next slot stays, wherever the page is.
func TestFillOfAPageThatIsThere(t *testing.T) { // P6.2, P6.4
	for many := 1; many <= api.Entries+2; many++ {
		for back := 1; back <= min(many, api.Entries); back++ {
			page := uint32(many - back)
			for _, e := range []api.Entry{{Page: page, Frame: 99}, {Page: page, Frame: 99, Write: true}, entryOf(page)} {
				c := New()
				for n := range many {
					c.Fill(entryOf(uint32(n)))
				}
				next, wanted := c.Next(), c.All()
				slot := int(page) % api.Entries
				fill(t, c, e, slot)
				e.There = true
				wanted[slot] = e
				holds(t, c, next, wanted)
			}
		}
	}
}

// TestFifthPage: it takes the slot of the page that came first, though that was filled again, or looked up, meanwhile.
func TestFifthPage(t *testing.T) { // P6.2, P6.4
	c := filled(1, 2, 3, 4)
	fill(t, c, api.Entry{Page: 1, Frame: 50}, 0)
	c.Look(1)
	fill(t, c, entryOf(5), 0)
	missing(t, c, 1)
	holds(t, c, 1, slotsOf(entryOf(5), entryOf(2), entryOf(3), entryOf(4)))
	fill(t, c, entryOf(1), 1)
	holds(t, c, 2, slotsOf(entryOf(5), entryOf(1), entryOf(3), entryOf(4)))
}

// TestFilledIsLookedUp: a page stays while fewer than Entries others come behind it, from each slot on, and those that are there already are filled again.
func TestFilledIsLookedUp(t *testing.T) { // P6.4
	for ahead := range uint32(2 * api.Entries) {
		c := New()
		for n := range ahead {
			c.Fill(entryOf(100 + n))
		}
		c.Fill(entryOf(7))
		for n := range uint32(api.Entries) {
			c.Fill(entryOf(200 + n))
			c.Fill(entryOf(200 + n))
			e, _, is := c.Look(7)
			if wanted := n < api.Entries-1; is != wanted || is && e != entryOf(7) {
				t.Errorf("behind %d and ahead of %d others: Look(7) is %v, %t", ahead, n+1, e, is)
			}
		}
	}
}

func TestDrop(t *testing.T) { // P6.2, P6.4
	for slot := range api.Entries {
		c := filled(1, 2, 3, 4, 5, 6)
		wanted := slotsOf(entryOf(5), entryOf(6), entryOf(3), entryOf(4))
		page := wanted[slot].Page
		wanted[slot] = api.Entry{}
		drop(t, c, page, true)
		holds(t, c, 2, wanted)
		drop(t, c, page, false)
		drop(t, c, 1, false)
		drop(t, c, 0, false)
		holds(t, c, 2, wanted)
	}
}

// TestDroppedComesAgain: it has the next slot, not the one that it had, nor one that has no entry.
func TestDroppedComesAgain(t *testing.T) { // P6.2, P6.4
	c := filled(1, 2)
	drop(t, c, 1, true)
	fill(t, c, entryOf(1), 2)
	holds(t, c, 3, slotsOf(api.Entry{}, entryOf(2), entryOf(1)))
	drop(t, c, 1, true)
	fill(t, c, entryOf(1), 3)
	holds(t, c, 0, slotsOf(api.Entry{}, entryOf(2), api.Entry{}, entryOf(1)))
	fill(t, c, entryOf(3), 0)
	fill(t, c, entryOf(4), 1)
	missing(t, c, 2)
	holds(t, c, 2, slotsOf(entryOf(3), entryOf(4), api.Entry{}, entryOf(1)))
}

// TestLastDropped: a slot that has no entry any more is told as a zero one, ahead of others and behind them.
func TestLastDropped(t *testing.T) { // P6.1, P6.2
	c := filled(1, 2, 3, 4)
	for _, page := range []uint32{4, 1, 3, 2} {
		drop(t, c, page, true)
		if got := c.All(); len(got) != api.Entries || got[page-1] != (api.Entry{}) {
			t.Errorf("All is %v behind Drop(%d)", got, page)
		}
	}
	holds(t, c, 0, slotsOf())
	fill(t, c, entryOf(9), 0)
	holds(t, c, 1, slotsOf(entryOf(9)))
}

func TestFlush(t *testing.T) { // P6.2, P6.4
	for many := range uint32(2*api.Entries + 1) {
		c := New()
		for page := range many {
			c.Fill(entryOf(page))
		}
		c.Flush()
		holds(t, c, 0, slotsOf())
		if !Same(c, New()) {
			t.Errorf("behind %d: what was flushed is not like a new one", many)
		}
		c.Flush()
		fill(t, c, entryOf(3), 0)
		holds(t, c, 1, slotsOf(entryOf(3)))
	}
}

// TestAllIsNewMemory: an answer shares nothing with the TLB, nor with another answer.
func TestAllIsNewMemory(t *testing.T) { // P6.1
	c := filled(1, 2)
	one, other := c.All(), c.All()
	clear(one[:cap(one)])
	if !slices.Equal(other, slotsOf(entryOf(1), entryOf(2))) {
		t.Error("two answers share entries")
	}
	holds(t, c, 2, slotsOf(entryOf(1), entryOf(2)))
	c.Fill(api.Entry{Page: 1, Frame: 9})
	c.Drop(2)
	if !slices.Equal(other, slotsOf(entryOf(1), entryOf(2))) {
		t.Error("an answer has what was filled later")
	}
}

// TestWalkedIsAsItWas: what is filled, dropped and flushed behind the call changes nothing in what is told, ahead of the going over or on the way.
func TestWalkedIsAsItWas(t *testing.T) { // P6.1
	c := filled(1, 2, 3, 4, 5)
	c.Drop(3)
	wanted := []told{{0, entryOf(5)}, {1, entryOf(2)}, {3, entryOf(4)}}
	each, empty := c.Walked(), New().Walked()
	for n, change := range []func(){
		func() {}, func() { c.Fill(api.Entry{Page: 5, Frame: 70}) }, func() { c.Fill(entryOf(6)) },
		func() { c.Drop(4) }, c.Flush, func() { c.Fill(entryOf(8)) },
	} {
		change()
		if got := walked(each); !slices.Equal(got, wanted) {
			t.Errorf("change %d: Walked is %v, not %v", n, got, wanted)
		}
	}
	var got []told
	for slot, e := range c.Walked() {
		got = append(got, told{slot, e})
		c.Flush()
		c.Fill(entryOf(40))
		c.Fill(entryOf(41))
	}
	if !slices.Equal(got, []told{{0, entryOf(8)}}) {
		t.Errorf("Walked is %v", got)
	}
	holds(t, c, 2, slotsOf(entryOf(40), entryOf(41)))
	if len(walked(empty)) != 0 {
		t.Error("Walked of a new one tells something")
	}
}

// TestWalkedLeft: it may be left behind each entry, and tells all of them when gone over again; two that are gone over at once do not meet.
func TestWalkedLeft(t *testing.T) { // P6.1
	c := filled(1, 2, 3, 4)
	c.Drop(1)
	wanted := []told{{1, entryOf(2)}, {2, entryOf(3)}, {3, entryOf(4)}}
	each := c.Walked()
	for most := 1; most <= len(wanted); most++ {
		var got []told
		for slot, e := range each {
			got = append(got, told{slot, e})
			if len(got) == most {
				break
			}
		}
		if !slices.Equal(got, wanted[:most]) {
			t.Errorf("left behind %d: %v", most, got)
		}
		if again := walked(each); !slices.Equal(again, wanted) {
			t.Errorf("again: %v", again)
		}
	}
	var outer []told
	for slot, e := range each {
		outer = append(outer, told{slot, e})
		if inner := walked(each); !slices.Equal(inner, wanted) {
			t.Errorf("within another: %v", inner)
		}
	}
	if !slices.Equal(outer, wanted) {
		t.Errorf("around another: %v", outer)
	}
}

// TestAskingChangesNothing: what is looked up neither comes nor goes by it.
func TestAskingChangesNothing(t *testing.T) { // P6.1
	c := filled(1, 2, 3, 4, 5)
	for _, page := range somePages {
		c.Look(page)
		c.Next()
		c.All()
		walked(c.Walked())
		c.Copy()
		Same(c, New())
	}
	holds(t, c, 1, slotsOf(entryOf(5), entryOf(2), entryOf(3), entryOf(4)))
}

func TestCopyGoesOnApart(t *testing.T) { // P6.3
	c := filled(1, 2, 3, 4, 5)
	other := c.Copy()
	if other == nil || other == c || !Same(c, other) {
		t.Fatal("the copy is not another one with the same")
	}
	was := slotsOf(entryOf(5), entryOf(2), entryOf(3), entryOf(4))
	holds(t, other, 1, was)
	fill(t, c, entryOf(6), 1)
	fill(t, c, api.Entry{Page: 5, Frame: 70}, 0)
	drop(t, c, 4, true)
	mine := slotsOf(api.Entry{There: true, Page: 5, Frame: 70}, entryOf(6), entryOf(3))
	holds(t, other, 1, was)
	holds(t, c, 2, mine)
	fill(t, other, entryOf(7), 1)
	holds(t, other, 2, slotsOf(entryOf(5), entryOf(7), entryOf(3), entryOf(4)))
	holds(t, c, 2, mine)
	other.Flush()
	holds(t, other, 0, slotsOf())
	holds(t, c, 2, mine)
	if Same(c, other) {
		t.Error("Same of others")
	}
	holds(t, New().Copy(), 0, slotsOf())
	if !Same(New().Copy(), New()) {
		t.Error("a copy of a new one is not like a new one")
	}
}

func TestSame(t *testing.T) { // P6.3
	base := filled(1, 2)
	again := filled(1, 2)
	again.Fill(api.Entry{Page: 2, Frame: 70})
	again.Fill(api.Entry{Page: 2, Frame: entryOf(2).Frame, Write: entryOf(2).Write})
	round := filled(9, 8, 7)
	round.Flush()
	round.Fill(entryOf(1))
	round.Fill(entryOf(2))
	otherFrame, otherWrite := filled(1), filled(1)
	otherFrame.Fill(api.Entry{Page: 2, Frame: entryOf(2).Frame + 1, Write: entryOf(2).Write})
	otherWrite.Fill(api.Entry{Page: 2, Frame: entryOf(2).Frame, Write: !entryOf(2).Write})
	further := filled(1, 2, 3)
	further.Drop(3)
	for name, row := range map[string]struct {
		other  *Tlb
		wanted bool
	}{
		"itself":                  {base, true},
		"its copy":                {base.Copy(), true},
		"the same calls":          {filled(1, 2), true},
		"filled again, and back":  {again, true},
		"flushed ahead":           {round, true},
		"other slots":             {filled(2, 1), false},
		"another page":            {filled(1, 3), false},
		"another frame":           {otherFrame, false},
		"another Write":           {otherWrite, false},
		"fewer":                   {filled(1), false},
		"more":                    {filled(1, 2, 3), false},
		"none":                    {New(), false},
		"another next slot alone": {further, false},
	} {
		if Same(base, row.other) != row.wanted || Same(row.other, base) != row.wanted {
			t.Errorf("%s: Same is not %t", name, row.wanted)
		}
	}
	if !Same(New(), New()) {
		t.Error("new ones are not alike")
	}
}

// TestSameBehindADrop: of a page that was dropped nothing stays but that its slot is not the next one.
func TestSameBehindADrop(t *testing.T) { // P6.2, P6.3
	for _, pages := range [][]uint32{{1}, {1, 2}, {1, 2, 3}, {1, 2, 3, 4}, {1, 2, 3, 4, 5}} {
		one := filled(pages...)
		other := New()
		for _, page := range pages {
			other.Fill(api.Entry{Page: page + 100, Frame: 1})
		}
		for _, page := range pages {
			one.Drop(page)
			other.Drop(page + 100)
		}
		if !Same(one, other) {
			t.Errorf("%v: %v is not like %v", pages, one.All(), other.All())
		}
	}
}

// byHand is a TLB told by lists alone.
type byHand struct {
	slots []api.Entry
	next  int
}

func (h *byHand) at(page uint32) int {
	return slices.IndexFunc(h.slots, func(e api.Entry) bool { return e.There && e.Page == page })
}

func (h *byHand) fill(e api.Entry) int {
	slot := h.at(e.Page)
	if slot < 0 {
		slot = h.next
		h.next++
		if h.next == 4 {
			h.next = 0
		}
	}
	h.slots[slot] = api.Entry{There: true, Page: e.Page, Frame: e.Frame, Write: e.Write}
	return slot
}

func (h *byHand) drop(page uint32) bool {
	slot := h.at(page)
	if slot >= 0 {
		h.slots[slot] = api.Entry{}
	}
	return slot >= 0
}

// steady tells numbers by a fixed rule, so that every run sees the same ones.
func steady(seed uint32) func(below int) int {
	return func(below int) int {
		seed = seed*1664525 + 1013904223
		return int(seed>>8) % below
	}
}

// TestAgainstLists: calls, mixed, of few pages and of many, leave what lists by hand have.
func TestAgainstLists(t *testing.T) { // P6.1 to P6.4
	for _, pages := range []int{2, 5, 6, 9, len(somePages)} {
		number := steady(uint32(pages))
		c, hand := New(), &byHand{slots: slotsOf()}
		for range 2000 {
			page := somePages[number(pages)]
			switch number(20) {
			case 0:
				c.Flush()
				hand = &byHand{slots: slotsOf()}
			case 1, 2, 3, 4, 5:
				drop(t, c, page, hand.drop(page))
			case 6:
				c = c.Copy()
			default:
				e := api.Entry{There: number(2) == 0, Page: page, Frame: uint32(number(40)), Write: number(2) == 0}
				fill(t, c, e, hand.fill(e))
			}
			holds(t, c, hand.next, hand.slots)
		}
	}
}
