package labels

import (
	"math"
	"slices"
	"testing"

	"pomander/api"
)

const highest = 65536

// noTables are tables that New did not make: their answers are those of none.
func noTables() map[string]*Table {
	refused, _ := New(0)
	return map[string]*Table{"nil": nil, "refused": refused, "zero": {}}
}

// noSets are words with a bit that is no label, labels beside it or not.
var noSets = []uint32{1 << 16, 1<<16 | 1, 1<<17 - 1, 1 << 31, math.MaxUint32, math.MaxUint32 - 1<<16 + 1}

func made(t *testing.T, most int, sets ...uint32) *Table {
	t.Helper()
	table, errno := New(most)
	if table == nil || errno != api.OK {
		t.Fatalf("New(%d) is %v, %v", most, table, errno)
	}
	for _, set := range sets {
		if _, errno := table.Keep(set); errno != api.OK {
			t.Fatalf("Keep(%d) is %v", set, errno)
		}
	}
	return table
}

// holds fails where a table has other sets than these, or other numbers for them.
func holds(t *testing.T, table *Table, sets ...uint32) {
	t.Helper()
	if got := table.All(); !slices.Equal(got, sets) {
		t.Errorf("All is %v, not %v", got, sets)
	}
	if got := table.Len(); got != len(sets) {
		t.Errorf("Len is %d, not %d", got, len(sets))
	}
	for n, set := range sets {
		if got, errno := table.Set(n); got != set || errno != api.OK {
			t.Errorf("Set(%d) is %d, %v, not %d", n, got, errno, set)
		}
		if got, kept := table.Has(set); got != n || !kept {
			t.Errorf("Has(%d) is %d, %t, not %d", set, got, kept, n)
		}
	}
	for _, n := range []int{len(sets), -1} {
		if got, errno := table.Set(n); got != 0 || errno != api.ErrNone {
			t.Errorf("Set(%d) is %d, %v", n, got, errno)
		}
	}
}

func TestNew(t *testing.T) { // P2.1
	for _, most := range []int{1, 2, 3, 65535, highest} {
		holds(t, made(t, most), 0)
	}
	for _, most := range []int{0, -1, highest + 1, math.MaxInt, math.MinInt, 1 << 32, 1<<32 + 1} {
		if table, errno := New(most); table != nil || errno != api.ErrArg {
			t.Errorf("New(%d) is %v, %v", most, table, errno)
		}
	}
}

func TestNoTable(t *testing.T) { // P2.1, P2.2
	for name, table := range noTables() {
		for _, set := range []uint32{0, 1, 1 << 16} {
			if n, errno := table.Keep(set); n != 0 || errno != api.ErrNil {
				t.Errorf("%s: Keep(%d) is %d, %v", name, set, n, errno)
			}
			if n, kept := table.Has(set); n != 0 || kept {
				t.Errorf("%s: Has(%d) is %d, %t", name, set, n, kept)
			}
		}
		for _, n := range []int{0, 1, -1, math.MaxInt, math.MinInt} {
			if set, errno := table.Set(n); set != 0 || errno != api.ErrNil {
				t.Errorf("%s: Set(%d) is %d, %v", name, n, set, errno)
			}
			if joined, errno := table.Join(n, 0); joined != 0 || errno != api.ErrNil {
				t.Errorf("%s: Join(%d, 0) is %d, %v", name, n, joined, errno)
			}
			if joined, errno := table.Join(0, n); joined != 0 || errno != api.ErrNil {
				t.Errorf("%s: Join(0, %d) is %d, %v", name, n, joined, errno)
			}
		}
		if table.Len() != 0 || len(table.All()) != 0 || table.Copy() != nil {
			t.Errorf("%s: Len %d, All %v, Copy %v", name, table.Len(), table.All(), table.Copy())
		}
	}
}

func TestExamples(t *testing.T) { // P2.1, P2.3
	table := made(t, 3)
	for _, row := range []struct {
		set    uint32
		wanted int
		errno  api.Errno
	}{{5, 1, api.OK}, {2, 2, api.OK}, {5, 1, api.OK}, {7, 0, api.ErrFull}} {
		if n, errno := table.Keep(row.set); n != row.wanted || errno != row.errno {
			t.Errorf("Keep(%d) is %d, %v", row.set, n, errno)
		}
	}
	if n, errno := table.Join(1, 2); n != 0 || errno != api.ErrFull {
		t.Errorf("Join(1, 2) is %d, %v", n, errno)
	}
	if n, errno := table.Join(1, 0); n != 1 || errno != api.OK {
		t.Errorf("Join(1, 0) is %d, %v", n, errno)
	}
	holds(t, table, 0, 5, 2)
	if Text(5) != "0 2" || Text(0) != "-" {
		t.Errorf("Text is %q, %q", Text(5), Text(0))
	}
}

func TestKeep(t *testing.T) { // P2.1
	table := made(t, 5)
	for _, row := range []struct {
		set    uint32
		wanted int
	}{{0, 0}, {1, 1}, {1 << 15, 2}, {1<<16 - 1, 3}, {1, 1}, {0, 0}, {6, 4}, {1 << 15, 2}, {6, 4}} {
		if n, errno := table.Keep(row.set); n != row.wanted || errno != api.OK {
			t.Errorf("Keep(%d) is %d, %v, not %d", row.set, n, errno, row.wanted)
		}
	}
	holds(t, table, 0, 1, 1<<15, 1<<16-1, 6)
}

func TestKeepRefuses(t *testing.T) { // P2.1, P2.4
	for _, most := range []int{1, 2, 9} {
		table := made(t, most)
		for _, set := range noSets {
			if n, errno := table.Keep(set); n != 0 || errno != api.ErrArg {
				t.Errorf("bound %d: Keep(%d) is %d, %v", most, set, n, errno)
			}
			if n, kept := table.Has(set); n != 0 || kept {
				t.Errorf("bound %d: Has(%d) is %d, %t", most, set, n, kept)
			}
		}
		holds(t, table, 0)
	}
	full := made(t, 1)
	for _, set := range []uint32{1, 1 << 15, 1<<16 - 1} {
		if n, errno := full.Keep(set); n != 0 || errno != api.ErrFull {
			t.Errorf("Keep(%d) is %d, %v", set, n, errno)
		}
	}
	if n, errno := full.Keep(0); n != 0 || errno != api.OK {
		t.Errorf("Keep(0) of a full one is %d, %v", n, errno)
	}
	holds(t, full, 0)
}

func TestKeepToTheHighestBound(t *testing.T) { // P2.1
	table := made(t, highest)
	for set := range uint32(highest) {
		if n, errno := table.Keep(set); n != int(set) || errno != api.OK {
			t.Fatalf("Keep(%d) is %d, %v", set, n, errno)
		}
	}
	if got := table.Len(); got != highest {
		t.Errorf("Len is %d", got)
	}
	short := made(t, highest-1)
	for set := range uint32(highest - 1) {
		if n, errno := short.Keep(set); n != int(set) || errno != api.OK {
			t.Fatalf("Keep(%d) is %d, %v", set, n, errno)
		}
	}
	if n, errno := short.Keep(highest - 1); n != 0 || errno != api.ErrFull {
		t.Errorf("Keep above the bound is %d, %v", n, errno)
	}
	if n, errno := short.Join(1, highest-2); n != 0 || errno != api.ErrFull {
		t.Errorf("Join above the bound is %d, %v", n, errno)
	}
}

func TestSetRefuses(t *testing.T) { // P2.1
	table := made(t, 9, 5, 2)
	for _, n := range []int{-1, 3, 4, 9, math.MaxInt, math.MinInt, 1 << 32, 1<<32 + 1} {
		if set, errno := table.Set(n); set != 0 || errno != api.ErrNone {
			t.Errorf("Set(%d) is %d, %v", n, set, errno)
		}
	}
	holds(t, table, 0, 5, 2)
}

func TestJoin(t *testing.T) { // P2.1
	table := made(t, 9, 5, 2, 4)
	for _, row := range []struct{ a, b, wanted int }{
		{0, 0, 0}, {1, 1, 1}, {1, 0, 1}, {0, 2, 2}, {1, 3, 1}, {3, 1, 1},
		{1, 2, 4}, {2, 1, 4}, {4, 1, 4}, {2, 3, 5}, {5, 4, 4}, {3, 2, 5},
	} {
		if n, errno := table.Join(row.a, row.b); n != row.wanted || errno != api.OK {
			t.Errorf("Join(%d, %d) is %d, %v, not %d", row.a, row.b, n, errno, row.wanted)
		}
	}
	holds(t, table, 0, 5, 2, 4, 7, 6)
}

func TestJoinRefuses(t *testing.T) { // P2.1, P2.4
	table := made(t, 3, 5, 2)
	for _, n := range []int{-1, 3, math.MaxInt, math.MinInt, 1 << 32, 1<<32 + 1} {
		for _, other := range []int{0, 1, 2, -1, 3} {
			if joined, errno := table.Join(n, other); joined != 0 || errno != api.ErrNone {
				t.Errorf("Join(%d, %d) is %d, %v", n, other, joined, errno)
			}
			if joined, errno := table.Join(other, n); joined != 0 || errno != api.ErrNone {
				t.Errorf("Join(%d, %d) is %d, %v", other, n, joined, errno)
			}
		}
	}
	for range 3 { // a refusal is answered again
		for _, p := range [][2]int{{1, 2}, {2, 1}} {
			if joined, errno := table.Join(p[0], p[1]); joined != 0 || errno != api.ErrFull {
				t.Errorf("Join(%d, %d) is %d, %v", p[0], p[1], joined, errno)
			}
		}
	}
	holds(t, table, 0, 5, 2)
}

func TestHas(t *testing.T) { // P2.1
	table := made(t, 9, 5, 2)
	for _, set := range []uint32{1, 3, 4, 6, 7, 1 << 15, 1<<16 - 1, 1 << 16, 5 | 1<<16, 1 << 31} {
		if n, kept := table.Has(set); n != 0 || kept {
			t.Errorf("Has(%d) is %d, %t", set, n, kept)
		}
	}
	holds(t, table, 0, 5, 2) // Has keeps nothing
}

func TestAllIsNewMemory(t *testing.T) { // P2.2
	table := made(t, 9, 5, 2)
	first, second := table.All(), table.All()
	first[1] = 77
	_ = append(first[:1], 78, 79)
	if !slices.Equal(second, []uint32{0, 5, 2}) {
		t.Errorf("another answer is %v", second)
	}
	kept := table.All()
	if _, errno := table.Keep(9); errno != api.OK || len(kept) != 3 {
		t.Errorf("Keep(9) is %v, the answer ahead of it %v", errno, kept)
	}
	holds(t, table, 0, 5, 2, 9)
}

func TestCopyGoesOnApart(t *testing.T) { // P2.2
	table := made(t, 5, 5, 2)
	if _, errno := table.Join(1, 2); errno != api.OK {
		t.Fatal(errno)
	}
	other := table.Copy()
	if other == table || !Same(table, other) {
		t.Fatal("the copy is not another one with the same")
	}
	holds(t, other, 0, 5, 2, 7)
	if n, errno := table.Keep(8); n != 4 || errno != api.OK {
		t.Errorf("Keep(8) is %d, %v", n, errno)
	}
	holds(t, other, 0, 5, 2, 7)
	if n, errno := other.Keep(16); n != 4 || errno != api.OK {
		t.Errorf("Keep(16) of the copy is %d, %v", n, errno)
	}
	holds(t, table, 0, 5, 2, 7, 8)
	holds(t, other, 0, 5, 2, 7, 16)
	for _, each := range []*Table{table, other} {
		if n, errno := each.Keep(32); n != 0 || errno != api.ErrFull {
			t.Errorf("Keep(32) is %d, %v", n, errno)
		}
		if n, errno := each.Join(2, 1); n != 3 || errno != api.OK {
			t.Errorf("Join(2, 1) is %d, %v", n, errno)
		}
	}
}

// TestCopyJoinsApart: a pair that was joined behind the copy has another number in each of the two.
func TestCopyJoinsApart(t *testing.T) { // P2.2
	table := made(t, 9, 1, 2)
	other := table.Copy()
	if _, errno := other.Keep(8); errno != api.OK {
		t.Fatal(errno)
	}
	if n, errno := table.Join(1, 2); n != 3 || errno != api.OK {
		t.Errorf("Join(1, 2) is %d, %v", n, errno)
	}
	if n, errno := other.Join(1, 2); n != 4 || errno != api.OK {
		t.Errorf("Join(1, 2) of the copy is %d, %v", n, errno)
	}
	holds(t, table, 0, 1, 2, 3)
	holds(t, other, 0, 1, 2, 8, 3)
}

func TestSame(t *testing.T) { // P2.2
	joined := made(t, 9, 1, 2)
	if n, errno := joined.Join(1, 2); n != 3 || errno != api.OK {
		t.Fatal(n, errno)
	}
	base := made(t, 9, 1, 2, 3)
	for _, row := range []struct {
		name   string
		other  *Table
		wanted bool
	}{
		{"itself", base, true},
		{"its copy", base.Copy(), true},
		{"one made alike", made(t, 9, 1, 2, 3, 2, 0), true},
		{"one that joined", joined, true},
		{"another bound", made(t, 8, 1, 2, 3), false},
		{"another order", made(t, 9, 2, 1, 3), false},
		{"fewer", made(t, 9, 1, 2), false},
		{"more", made(t, 9, 1, 2, 3, 4), false},
		{"another set", made(t, 9, 1, 2, 4), false},
		{"an empty one", made(t, 9), false},
	} {
		if Same(base, row.other) != row.wanted || Same(row.other, base) != row.wanted {
			t.Errorf("%s: Same is not %t", row.name, row.wanted)
		}
	}
}

func TestSameOfNone(t *testing.T) { // P2.2
	for name, none := range noTables() {
		for _, other := range noTables() {
			if !Same(none, other) {
				t.Errorf("%s: none is not like none", name)
			}
		}
		for _, there := range []*Table{made(t, 1), made(t, 9, 1)} {
			if Same(none, there) || Same(there, none) {
				t.Errorf("%s: none is like one that is there", name)
			}
		}
	}
}

func TestOf(t *testing.T) { // P2.3
	all := []int{0, 1, 2, 3, 4, 5, 6, 7, 8, 9, 10, 11, 12, 13, 14, 15}
	for _, row := range []struct {
		labels []int
		wanted uint32
	}{
		{nil, 0}, {[]int{}, 0}, {[]int{0}, 1}, {[]int{15}, 1 << 15}, {[]int{2, 0}, 5},
		{[]int{3, 3, 3}, 8}, {[]int{7, 1, 7, 0}, 131}, {all, 1<<16 - 1},
	} {
		if got, errno := Of(row.labels...); got != row.wanted || errno != api.OK {
			t.Errorf("Of(%v) is %d, %v, not %d", row.labels, got, errno, row.wanted)
		}
	}
	if got, errno := Of(); got != 0 || errno != api.OK {
		t.Errorf("Of() is %d, %v", got, errno)
	}
	for _, wrong := range []int{-1, 16, 17, 31, 32, 64, math.MaxInt, math.MinInt, 1 << 32} {
		for _, labels := range [][]int{{wrong}, {0, wrong}, {wrong, 15}, {1, wrong, 2}} {
			if got, errno := Of(labels...); got != 0 || errno != api.ErrArg {
				t.Errorf("Of(%v) is %d, %v", labels, got, errno)
			}
		}
	}
}

func TestOfLeavesWhatIsHandedIn(t *testing.T) { // P2.3
	room := []int{9, 3, 9, 77}
	if _, errno := Of(room[:3]...); errno != api.OK || !slices.Equal(room, []int{9, 3, 9, 77}) {
		t.Errorf("%v, %v", errno, room)
	}
}

func TestLabelsAndText(t *testing.T) { // P2.3
	for _, row := range []struct {
		set    uint32
		labels []int
		text   string
	}{
		{0, nil, "-"},
		{1, []int{0}, "0"},
		{5, []int{0, 2}, "0 2"},
		{1 << 15, []int{15}, "15"},
		{1<<10 | 1<<9, []int{9, 10}, "9 10"},
		{1<<15 | 1, []int{0, 15}, "0 15"},
		{1<<16 - 1, []int{0, 1, 2, 3, 4, 5, 6, 7, 8, 9, 10, 11, 12, 13, 14, 15}, "0 1 2 3 4 5 6 7 8 9 10 11 12 13 14 15"},
		{1 << 16, nil, "-"},
		{math.MaxUint32 - 1<<16 + 1, nil, "-"},
		{1<<31 | 1<<16 | 8, []int{3}, "3"},
		{math.MaxUint32 - 1, []int{1, 2, 3, 4, 5, 6, 7, 8, 9, 10, 11, 12, 13, 14, 15}, "1 2 3 4 5 6 7 8 9 10 11 12 13 14 15"},
	} {
		if got := Labels(row.set); !slices.Equal(got, row.labels) {
			t.Errorf("Labels(%d) is %v, not %v", row.set, got, row.labels)
		}
		if got := Text(row.set); got != row.text {
			t.Errorf("Text(%d) is %q, not %q", row.set, got, row.text)
		}
	}
}

func TestOfLabelsIsTheSet(t *testing.T) { // P2.3
	for set := range uint32(highest) {
		if got, errno := Of(Labels(set)...); got != set || errno != api.OK {
			t.Fatalf("Of(Labels(%d)) is %d, %v", set, got, errno)
		}
	}
}

// steady tells numbers by a fixed rule, so that every run sees the same ones.
func steady(seed uint32) func(below int) int {
	return func(below int) int {
		seed = seed*1664525 + 1013904223
		return int(seed>>8) % below
	}
}

// byHand is a table by its definition alone: the sets as they came.
type byHand struct {
	most int
	sets []uint32
}

func (h *byHand) keep(set uint32) (int, api.Errno) {
	if n := slices.Index(h.sets, set); n >= 0 {
		return n, api.OK
	}
	if len(h.sets) == h.most {
		return 0, api.ErrFull
	}
	h.sets = append(h.sets, set)
	return len(h.sets) - 1, api.OK
}

func TestAgainstOneByHand(t *testing.T) { // P2.1, P2.4
	for _, most := range []int{1, 2, 5, 40, 300} {
		next := steady(uint32(most))
		table, hand := made(t, most), &byHand{most, []uint32{0}}
		for range 3000 {
			if next(2) == 0 {
				set := uint32(1<<next(9) | 1<<next(9))
				wanted, refusal := hand.keep(set)
				if n, errno := table.Keep(set); n != wanted || errno != refusal {
					t.Fatalf("bound %d: Keep(%d) is %d, %v, not %d, %v", most, set, n, errno, wanted, refusal)
				}
				continue
			}
			a, b := next(len(hand.sets)), next(len(hand.sets))
			wanted, refusal := hand.keep(hand.sets[a] | hand.sets[b])
			if n, errno := table.Join(a, b); n != wanted || errno != refusal {
				t.Fatalf("bound %d: Join(%d, %d) is %d, %v, not %d, %v", most, a, b, n, errno, wanted, refusal)
			}
		}
		holds(t, table, hand.sets...)
	}
}

func TestJoinDoesNotHangOnTheOrder(t *testing.T) { // P2.4
	table := made(t, 64, 1, 2, 4, 8, 16)
	for a := range 6 {
		for b := range 6 {
			first, errno := table.Join(a, b)
			if errno != api.OK {
				t.Fatalf("Join(%d, %d) is %v", a, b, errno)
			}
			kept := table.Len()
			again, _ := table.Join(a, b)
			turned, _ := table.Join(b, a)
			onward, _ := table.Join(first, a)
			if again != first || turned != first || onward != first || table.Len() != kept {
				t.Errorf("Join(%d, %d) is %d, then %d, %d, %d", a, b, first, again, turned, onward)
			}
		}
	}
	all := table.All()
	slices.Sort(all)
	if len(slices.Compact(all)) != table.Len() {
		t.Errorf("a set is kept twice: %v", table.All())
	}
}

// TestJoinOfManyPairs goes beyond as many pairs as are remembered.
func TestJoinOfManyPairs(t *testing.T) { // P2.4
	const some = 300
	table := made(t, highest)
	for set := range uint32(highest) {
		table.Keep(set)
	}
	for range 2 {
		for a := range some {
			for b := range some {
				if n, errno := table.Join(a, b<<7); n != a|b<<7 || errno != api.OK {
					t.Fatalf("Join(%d, %d) is %d, %v", a, b<<7, n, errno)
				}
			}
		}
	}
	if len(table.joined) > mostJoined {
		t.Errorf("%d pairs are remembered", len(table.joined))
	}
}
