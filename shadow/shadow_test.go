package shadow

import (
	"math"
	"slices"
	"testing"

	"pomander/api"
)

const highestSet = 1<<api.MaxLabels - 1

// noShadows are shadows that New did not make: their answers are those of none.
func noShadows() map[string]*Shadow {
	refused, _ := New(0)
	return map[string]*Shadow{"nil": nil, "refused": refused, "zero": {}}
}

// noSets are words with a bit that is no label, labels beside it or not.
var noSets = []uint32{1 << 16, 1<<16 | 1, 1<<17 - 1, 1 << 31, math.MaxUint32, math.MaxUint32 - highestSet}

// told is a byte and its set, as All tells them.
type told struct {
	at  int
	set uint32
}

func made(t *testing.T, pages int, sets ...told) *Shadow {
	t.Helper()
	s, errno := New(pages)
	if s == nil || errno != api.OK {
		t.Fatalf("New(%d) is %v, %v", pages, s, errno)
	}
	for _, each := range sets {
		set(t, s, each.at, each.set)
	}
	return s
}

func set(t *testing.T, s *Shadow, at int, set uint32) {
	t.Helper()
	if errno := s.Set(at, set); errno != api.OK {
		t.Fatalf("Set(%d, %d) is %v", at, set, errno)
	}
}

func fill(t *testing.T, s *Shadow, at, n int, set uint32) {
	t.Helper()
	if errno := s.Fill(at, n, set); errno != api.OK {
		t.Fatalf("Fill(%d, %d, %d) is %v", at, n, set, errno)
	}
}

func all(s *Shadow) []told {
	var list []told
	for at, set := range s.All() {
		list = append(list, told{at, set})
	}
	return list
}

// holds fails where a shadow has other sets than these, or keeps other pages than those that have some.
func holds(t *testing.T, s *Shadow, pages int, sets ...told) {
	t.Helper()
	wanted, private := make([]uint32, pages*api.PageBytes), map[int]bool{}
	for _, each := range sets {
		wanted[each.at] = each.set
		private[each.at/api.PageBytes] = true
	}
	if got := s.Size(); got != len(wanted) {
		t.Errorf("Size is %d, not %d", got, len(wanted))
	}
	for at, set := range wanted {
		if got, errno := s.Get(at); got != set || errno != api.OK {
			t.Errorf("Get(%d) is %d, %v, not %d", at, got, errno, set)
		}
	}
	if got := all(s); !slices.Equal(got, sets) {
		t.Errorf("All is %v, not %v", got, sets)
	}
	if got := s.Pages(); got != len(private) || len(s.private) != got {
		t.Errorf("Pages is %d, %d are kept, not %d", got, len(s.private), len(private))
	}
	for page := -1; page <= pages; page++ {
		if got := s.Private(page); got != private[page] {
			t.Errorf("Private(%d) is %t", page, got)
		}
	}
}

func TestNewAndSize(t *testing.T) { // P3.1
	for _, pages := range []int{1, 2, 3, 31, 32} {
		holds(t, made(t, pages), pages)
	}
	for _, pages := range []int{0, -1, 33, 64, math.MaxInt, math.MinInt, 1 << 32, 1<<32 + 1} {
		if s, errno := New(pages); s != nil || errno != api.ErrArg {
			t.Errorf("New(%d) is %v, %v", pages, s, errno)
		}
	}
}

func TestNoShadow(t *testing.T) { // P3.1, P3.2, P3.3
	for name, s := range noShadows() {
		for _, n := range []int{0, 1, -1, 64, math.MaxInt, math.MinInt} {
			if set, errno := s.Get(n); set != 0 || errno != api.ErrNil {
				t.Errorf("%s: Get(%d) is %d, %v", name, n, set, errno)
			}
			if set, errno := s.Union(n, n); set != 0 || errno != api.ErrNil {
				t.Errorf("%s: Union(%d, %d) is %d, %v", name, n, n, set, errno)
			}
			for _, set := range []uint32{0, 1, 1 << 16} {
				if errno := s.Set(n, set); errno != api.ErrNil {
					t.Errorf("%s: Set(%d, %d) is %v", name, n, set, errno)
				}
				if errno := s.Fill(n, n, set); errno != api.ErrNil {
					t.Errorf("%s: Fill(%d, %d, %d) is %v", name, n, n, set, errno)
				}
			}
			if s.Private(n) {
				t.Errorf("%s: Private(%d)", name, n)
			}
		}
		if s.Size() != 0 || s.Pages() != 0 || s.Copy() != nil {
			t.Errorf("%s: Size %d, Pages %d, Copy %v", name, s.Size(), s.Pages(), s.Copy())
		}
		if each := s.All(); each == nil || len(all(s)) != 0 {
			t.Errorf("%s: All tells %v", name, all(s))
		}
	}
}

func TestExamples(t *testing.T) { // P3.1, P3.2, P3.3
	s := made(t, 2)
	set(t, s, 70, 5)
	if got, errno := s.Get(70); got != 5 || errno != api.OK || s.Pages() != 1 {
		t.Errorf("Get(70) is %d, %v, Pages %d", got, errno, s.Pages())
	}
	if got, errno := s.Get(128); got != 0 || errno != api.ErrRange {
		t.Errorf("Get(128) is %d, %v", got, errno)
	}
	if got, errno := s.Union(60, 20); got != 5 || errno != api.OK {
		t.Errorf("Union(60, 20) is %d, %v", got, errno)
	}
	fill(t, s, 0, 3, 2)
	holds(t, s, 2, told{0, 2}, told{1, 2}, told{2, 2}, told{70, 5})
	set(t, s, 70, 0)
	if errno := s.Set(1, 65536); errno != api.ErrArg || s.Pages() != 1 {
		t.Errorf("Set(1, 65536) is %v, Pages %d", errno, s.Pages())
	}
	holds(t, s, 2, told{0, 2}, told{1, 2}, told{2, 2})
}

func TestFirstAndLastByte(t *testing.T) { // P3.2
	for _, pages := range []int{1, 2, 32} {
		last := pages*api.PageBytes - 1
		holds(t, made(t, pages, told{0, 1}), pages, told{0, 1})
		holds(t, made(t, pages, told{last, highestSet}), pages, told{last, highestSet})
		s := made(t, pages)
		fill(t, s, last, 1, 4)
		fill(t, s, 0, 1, 8)
		holds(t, s, pages, told{0, 8}, told{last, 4})
		if got, errno := s.Union(0, last+1); got != 12 || errno != api.OK {
			t.Errorf("Union of all is %d, %v", got, errno)
		}
		if got, errno := s.Union(1, last-1); got != 0 || errno != api.OK {
			t.Errorf("Union of all between is %d, %v", got, errno)
		}
	}
}

func TestEdgesOfPages(t *testing.T) { // P3.2, P3.3
	for _, at := range []int{63, 64, 127, 128} {
		holds(t, made(t, 3, told{at, 9}), 3, told{at, 9})
	}
	s := made(t, 3)
	fill(t, s, 63, 66, 1)
	wanted := []told{}
	for at := 63; at < 129; at++ {
		wanted = append(wanted, told{at, 1})
	}
	holds(t, s, 3, wanted...)
}

func TestSetTakesTheOldOnesPlace(t *testing.T) { // P3.2, P3.4
	s := made(t, 1, told{5, 3}, told{5, 4})
	holds(t, s, 1, told{5, 4})
	fill(t, s, 4, 3, 8)
	holds(t, s, 1, told{4, 8}, told{5, 8}, told{6, 8})
	fill(t, s, 5, 1, 0)
	holds(t, s, 1, told{4, 8}, told{6, 8})
}

func TestUnion(t *testing.T) { // P3.2
	s := made(t, 3, told{0, 1}, told{62, 2}, told{64, 4}, told{65, 6}, told{191, 1 << 15})
	for _, row := range []struct {
		at, n  int
		wanted uint32
	}{
		{0, 1, 1}, {0, 62, 1}, {0, 63, 3}, {0, 64, 3}, {0, 65, 7}, {1, 61, 0}, {1, 62, 2}, {62, 3, 6},
		{63, 1, 0}, {63, 2, 4}, {65, 1, 6}, {66, 125, 0}, {66, 126, 1 << 15}, {191, 1, 1 << 15}, {0, 192, 1<<15 | 7},
	} {
		if got, errno := s.Union(row.at, row.n); got != row.wanted || errno != api.OK {
			t.Errorf("Union(%d, %d) is %d, %v, not %d", row.at, row.n, got, errno, row.wanted)
		}
	}
	holds(t, s, 3, told{0, 1}, told{62, 2}, told{64, 4}, told{65, 6}, told{191, 1 << 15})
}

// TestNoBytes: no bytes may be at any place up to behind the last one, and are of no set.
func TestNoBytes(t *testing.T) { // P3.2
	s := made(t, 2, told{0, 1}, told{64, 2}, told{127, 4})
	for at := range s.Size() + 1 {
		if got, errno := s.Union(at, 0); got != 0 || errno != api.OK {
			t.Errorf("Union(%d, 0) is %d, %v", at, got, errno)
		}
		for _, set := range []uint32{0, 7} {
			if errno := s.Fill(at, 0, set); errno != api.OK {
				t.Errorf("Fill(%d, 0, %d) is %v", at, set, errno)
			}
		}
		if errno := s.Fill(at, 0, 1<<16); errno != api.ErrArg {
			t.Errorf("Fill(%d, 0, 65536) is %v", at, errno)
		}
	}
	for _, at := range []int{-1, 129, math.MaxInt, math.MinInt} {
		if got, errno := s.Union(at, 0); got != 0 || errno != api.ErrRange {
			t.Errorf("Union(%d, 0) is %d, %v", at, got, errno)
		}
		if errno := s.Fill(at, 0, 1); errno != api.ErrRange {
			t.Errorf("Fill(%d, 0, 1) is %v", at, errno)
		}
	}
	holds(t, s, 2, told{0, 1}, told{64, 2}, told{127, 4})
}

func TestNoSuchByte(t *testing.T) { // P3.2, P3.4
	s := made(t, 2, told{0, 1}, told{127, 4})
	for _, at := range []int{-1, -64, 128, 129, 2048, math.MaxInt, math.MinInt, 1 << 32, 1<<32 + 1} {
		if got, errno := s.Get(at); got != 0 || errno != api.ErrRange {
			t.Errorf("Get(%d) is %d, %v", at, got, errno)
		}
		if errno := s.Set(at, 2); errno != api.ErrRange {
			t.Errorf("Set(%d, 2) is %v", at, errno)
		}
		if errno := s.Set(at, 0); errno != api.ErrRange {
			t.Errorf("Set(%d, 0) is %v", at, errno)
		}
	}
	for _, p := range [][2]int{
		{0, 129}, {0, -1}, {1, 128}, {127, 2}, {128, 1}, {128, -1}, {-1, 1}, {-1, 2}, {-1, 129}, {64, 65}, {64, -64},
		{0, math.MaxInt}, {127, math.MaxInt}, {128, math.MaxInt}, {0, math.MinInt}, {128, math.MinInt},
		{math.MaxInt, 1}, {math.MaxInt, math.MaxInt}, {math.MaxInt, math.MinInt}, {math.MinInt, math.MaxInt},
		{math.MinInt, math.MinInt}, {-1, math.MaxInt}, {-1, math.MinInt}, {1 << 32, 1}, {1, 1 << 32},
	} {
		if got, errno := s.Union(p[0], p[1]); got != 0 || errno != api.ErrRange {
			t.Errorf("Union(%d, %d) is %d, %v", p[0], p[1], got, errno)
		}
		for _, set := range []uint32{0, 2} {
			if errno := s.Fill(p[0], p[1], set); errno != api.ErrRange {
				t.Errorf("Fill(%d, %d, %d) is %v", p[0], p[1], set, errno)
			}
		}
	}
	holds(t, s, 2, told{0, 1}, told{127, 4})
}

// TestWhatIsNoSet: it is refused ahead of a byte that is not there.
func TestWhatIsNoSet(t *testing.T) { // P3.2, P3.4
	s := made(t, 2, told{0, 1}, told{127, 4})
	for _, set := range noSets {
		for _, at := range []int{0, 1, 127, 128, -1, math.MaxInt, math.MinInt} {
			if errno := s.Set(at, set); errno != api.ErrArg {
				t.Errorf("Set(%d, %d) is %v", at, set, errno)
			}
			for _, n := range []int{0, 1, 129, -1, math.MaxInt} {
				if errno := s.Fill(at, n, set); errno != api.ErrArg {
					t.Errorf("Fill(%d, %d, %d) is %v", at, n, set, errno)
				}
			}
		}
	}
	holds(t, s, 2, told{0, 1}, told{127, 4})
	fill(t, s, 63, 2, highestSet)
	holds(t, s, 2, told{0, 1}, told{63, highestSet}, told{64, highestSet}, told{127, 4})
}

// TestPageIsSharedAgain: a page is private just while some byte of it has a set, however often that changes.
func TestPageIsSharedAgain(t *testing.T) { // P3.3, P3.4
	s := made(t, 3)
	for range 3 {
		set(t, s, 70, 5)
		set(t, s, 70, 6) // counted once
		set(t, s, 71, 5)
		holds(t, s, 3, told{70, 6}, told{71, 5})
		set(t, s, 70, 0)
		set(t, s, 70, 0)
		holds(t, s, 3, told{71, 5})
		set(t, s, 71, 0)
		holds(t, s, 3)
		fill(t, s, 0, s.Size(), 1)
		if s.Pages() != 3 || !s.Private(0) || !s.Private(1) || !s.Private(2) {
			t.Errorf("Pages is %d", s.Pages())
		}
		fill(t, s, 0, 64, 0)
		fill(t, s, 128, 63, 0)
		if s.Pages() != 2 || s.Private(0) || !s.Private(1) || !s.Private(2) {
			t.Errorf("Pages is %d", s.Pages())
		}
		fill(t, s, 1, s.Size()-1, 0)
		holds(t, s, 3)
	}
}

func TestEmptySetsMakeNoPagePrivate(t *testing.T) { // P3.3, P3.4
	s := made(t, 32)
	fill(t, s, 0, s.Size(), 0)
	for at := range s.Size() {
		set(t, s, at, 0)
	}
	holds(t, s, 32)
}

func TestPrivateOfNoPage(t *testing.T) { // P3.3
	s := made(t, 2)
	fill(t, s, 0, 128, 3)
	for _, page := range []int{-1, 2, 3, 32, 64, math.MaxInt, math.MinInt, 1 << 32} {
		if s.Private(page) {
			t.Errorf("Private(%d)", page)
		}
	}
}

// TestAllLeft: All is left behind each of its bytes, and gone over again.
func TestAllLeft(t *testing.T) { // P3.3
	wanted := []told{{0, 1}, {63, 2}, {64, 3}, {130, 4}, {191, 5}}
	each := made(t, 4, wanted...).All()
	for many := range len(wanted) + 1 {
		var list []told
		for at, set := range each {
			if len(list) == many {
				break
			}
			list = append(list, told{at, set})
		}
		if !slices.Equal(list, wanted[:many]) {
			t.Errorf("left behind %d, All told %v", many, list)
		}
	}
	for range 2 {
		var list []told
		for at, set := range each {
			for again, first := range each { // while it is under way
				if again != 0 || first != 1 {
					t.Errorf("All begins with %d, %d", again, first)
				}
				break
			}
			list = append(list, told{at, set})
		}
		if !slices.Equal(list, wanted) {
			t.Errorf("All told %v", list)
		}
	}
}

// TestAllIsAsWhenCalled: what is set behind the call, and on the way, changes nothing in what All tells.
func TestAllIsAsWhenCalled(t *testing.T) { // P3.3
	wanted := []told{{1, 1}, {64, 2}, {65, 3}}
	s := made(t, 3, wanted...)
	each := s.All()
	set(t, s, 2, 7)
	set(t, s, 1, 9)
	for range 2 {
		var list []told
		for at, set := range each {
			list = append(list, told{at, set})
			fill(t, s, 64, 64, 0)
			fill(t, s, 150, 20, 5)
		}
		if !slices.Equal(list, wanted) {
			t.Errorf("All told %v", list)
		}
	}
	empty := made(t, 1)
	none := empty.All()
	set(t, empty, 0, 1)
	for at, set := range none {
		t.Errorf("All of an empty one told %d, %d", at, set)
	}
}

func TestCopyGoesOnApart(t *testing.T) { // P3.1
	s := made(t, 3, told{0, 1}, told{70, 2})
	other := s.Copy()
	if other == s || !Same(s, other) {
		t.Fatal("the copy is not another one with the same")
	}
	holds(t, other, 3, told{0, 1}, told{70, 2})
	set(t, s, 0, 4)   // a page that both had
	set(t, s, 190, 8) // a page that none had
	fill(t, s, 70, 1, 0)
	holds(t, s, 3, told{0, 4}, told{190, 8})
	holds(t, other, 3, told{0, 1}, told{70, 2})
	set(t, other, 1, 16)
	set(t, other, 0, 0)
	holds(t, s, 3, told{0, 4}, told{190, 8})
	holds(t, other, 3, told{1, 16}, told{70, 2})
	set(t, other, 1, 0) // what is counted goes on apart too
	set(t, other, 70, 0)
	holds(t, other, 3)
	holds(t, made(t, 2).Copy(), 2)
}

func TestSame(t *testing.T) { // P3.1
	base := made(t, 2, told{0, 1}, told{70, 2})
	for _, row := range []struct {
		name   string
		other  *Shadow
		wanted bool
	}{
		{"itself", base, true},
		{"its copy", base.Copy(), true},
		{"one set in another order", made(t, 2, told{70, 2}, told{0, 1}), true},
		{"one that had more", made(t, 2, told{70, 4}, told{1, 1}, told{0, 1}, told{1, 0}, told{70, 2}), true},
		{"more pages", made(t, 3, told{0, 1}, told{70, 2}), false},
		{"fewer sets", made(t, 2, told{0, 1}), false},
		{"more sets", made(t, 2, told{0, 1}, told{70, 2}, told{71, 2}), false},
		{"another set", made(t, 2, told{0, 1}, told{70, 3}), false},
		{"another byte", made(t, 2, told{1, 1}, told{70, 2}), false},
		{"another page", made(t, 2, told{64, 1}, told{70, 2}), false},
		{"an empty one", made(t, 2), false},
	} {
		if Same(base, row.other) != row.wanted || Same(row.other, base) != row.wanted {
			t.Errorf("%s: Same is not %t", row.name, row.wanted)
		}
	}
	shared := made(t, 2, told{0, 1}, told{0, 0})
	if !Same(shared, made(t, 2)) || Same(shared, made(t, 1)) {
		t.Error("empty ones are not alike by their pages alone")
	}
}

func TestSameOfNone(t *testing.T) { // P3.1
	for name, none := range noShadows() {
		for _, other := range noShadows() {
			if !Same(none, other) {
				t.Errorf("%s: none is not like none", name)
			}
		}
		for _, there := range []*Shadow{made(t, 1), made(t, 2, told{0, 1})} {
			if Same(none, there) || Same(there, none) {
				t.Errorf("%s: none is like one that is there", name)
			}
		}
	}
}

// steady tells numbers by a fixed rule, so that every run sees the same ones.
func steady(seed uint32) func(below int) int {
	return func(below int) int {
		seed = seed*1664525 + 1013904223
		return int(seed>>8) % below
	}
}

// having tells the bytes of a plain list that have sets.
func having(sets []uint32) []told {
	var list []told
	for at, set := range sets {
		if set != 0 {
			list = append(list, told{at, set})
		}
	}
	return list
}

func TestAgainstOneByHand(t *testing.T) { // P3.2, P3.3, P3.4
	for _, pages := range []int{1, 2, 5, 32} {
		next := steady(uint32(pages))
		s, hand := made(t, pages), make([]uint32, pages*api.PageBytes)
		for turn := range 400 {
			at := next(len(hand))
			n := next(min(len(hand)-at, 150) + 1)
			set := uint32(next(2) * next(highestSet+1))
			fill(t, s, at, n, set)
			for each := at; each < at+n; each++ {
				hand[each] = set
			}
			from := next(len(hand) + 1)
			many, wanted := next(len(hand)-from+1), uint32(0)
			for _, set := range hand[from : from+many] {
				wanted |= set
			}
			if got, errno := s.Union(from, many); got != wanted || errno != api.OK {
				t.Fatalf("Union(%d, %d) is %d, %v, not %d", from, many, got, errno, wanted)
			}
			if turn%20 == 0 {
				holds(t, s, pages, having(hand)...)
			}
		}
		holds(t, s, pages, having(hand)...)
		fill(t, s, 0, s.Size(), 0)
		holds(t, s, pages)
	}
}
