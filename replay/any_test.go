package replay

import (
	"strconv"
	"testing"

	"pomander/api"
)

// chance tells numbers by a fixed rule, so that every run sees the same ones.
type chance func(below int) int

func steady(seed uint32) chance {
	seed *= 2654435761 // so that what is told first of seeds in a row is not alike
	return func(below int) int {
		seed = seed*1664525 + 1013904223
		return int(uint64(seed) * uint64(below) >> 32)
	}
}

// of is one of some.
func of[T any](c chance, some ...T) T { return some[c(len(some))] }

// set is one of few labels, mostly of one, now and then of none.
func (c chance) set() uint16 { return of(c, 0, 1<<c(5), 1<<c(5), 1<<c(5), uint16(3)<<c(4)) }

func (c chance) bytes(most int) []byte {
	l := make([]byte, c(most+1))
	for n := range l {
		l[n] = byte(of(c, c(256), 4*c(32)))
	}
	return l
}

func (c chance) rules() (r api.Rules) {
	for kind := 1; kind <= 4; kind++ {
		r.Sources[kind], r.Sinks[kind] = uint32(c.set()), uint32(c.set())
	}
	r.Strict = uint32(c.set() * uint16(c(4)/3))
	return r
}

// setup is one of a small form; its bound is often a small one.
func (c chance) setup() api.Setup {
	s := api.Setup{Form: form(4+c(2), 1+c(2)), Rules: c.rules()}
	if c(4) > 0 {
		s.Track, s.Most = true, of(c, 64, 64, 8, 7, 6, 5, 4, 3, 2)
	}
	return s
}

// Where, from memory's end on, a program has its page table, the words of its commands, and bytes for them.
const (
	pageTable   = 96
	diskCommand = 64
	receives    = 48
	sendsOff    = 40
	free        = 32
)

// snippet is some instructions that mean something in a memory of so many bytes.
func (c chance) snippet(size int) []string {
	number := strconv.Itoa
	a, b, at := "r"+number(1+c(4)), "r"+number(1+c(4)), number(size-4-4*c(free/4))
	asks := of(c, []string{number(size - diskCommand), "5"}, []string{number(size - receives), "7"}, []string{number(size - sendsOff), "9"})
	if c(20) == 0 { // what most often traps, and so begins anew; now and then it halts
		return of(c, []string{"lw " + a + ", " + b + ", 0"}, []string{"call"}, []string{of(c, "0", "0", "0", "halt")}, []string{"jalr " + a + ", " + b})
	}
	return of(c,
		[]string{"in " + a + ", 0"}, []string{"in " + a + ", 0", "out " + a + ", 1"}, []string{"in " + a + ", 0", "in " + b + ", 0", "xor " + a + ", " + b},
		[]string{"in " + a + ", 0", "sw " + a + ", r0, " + at}, []string{"lb " + a + ", r0, " + at, "out " + a + ", 1"}, []string{"in " + a + ", " + number(c(9))}, []string{"in " + a + ", 0", "lw " + b + ", r0, " + at, "or " + a + ", " + b},
		[]string{"add " + a + ", " + b}, []string{"or " + a + ", " + b}, []string{"mul " + a + ", " + b}, []string{"addi " + a + ", " + b + ", 3"}, []string{"addi " + a + ", r0, " + number(c(99))}, []string{"beq " + a + ", " + b + ", 2"},
		[]string{"addi " + a + ", r0, " + asks[0], "out " + a + ", " + asks[1]}, []string{"addi " + a + ", r0, " + asks[0], "out " + a + ", " + asks[1], "in " + b + ", 6", "in " + b + ", 8"},
		[]string{"addi " + a + ", r0, " + number(c(16)), "out " + a + ", 4", "addi " + a + ", r0, 6", "set " + a + ", 4"}, []string{"in " + a + ", 2", "addi " + a + ", " + a + ", 9", "out " + a + ", 3"},
		[]string{"sb " + a + ", r0, " + number(size-1-c(free))}, []string{"jal " + a + ", 2"}, []string{"flush"},
		[]string{"addi " + a + ", r0, " + number(size-pageTable), "set " + a + ", 3", "get " + a + ", 5", "addi " + a + ", " + a + ", 16", "set " + a + ", 0", "back"}, // goes on in the lower privilege
	)
}

// image is a program with a page table and commands at its end. Noughts behind it trap, and so it begins anew.
func (c chance) image(t *testing.T, f api.Form) []byte {
	var lines []string
	size := 64 * f.Frames
	for 4*len(lines) < size-pageTable-4*8 {
		lines = append(lines, c.snippet(size)...)
	}
	for 4*len(lines) < size-pageTable {
		lines = append(lines, "0")
	}
	for page := range (pageTable - diskCommand) / 4 {
		lines = append(lines, strconv.Itoa(page%f.Frames<<8|3-c(7)/6))
	}
	for _, n := range []int{c(f.Sectors), size - 64, c(3) / 2, 0, size - c(free), c(9), size - free - c(9), c(free)} {
		lines = append(lines, strconv.Itoa(n))
	}
	return code(t, lines...)
}

// record is one of a time; a few of them are refused.
func (c chance) record(at int64, f api.Form) api.Record {
	size := 64 * f.Frames
	return of(c,
		func() api.Record { return image(at, size-c(pageTable)+c(20)/19, c.bytes(8)) },
		func() api.Record { return onDisk(at, c(40*f.Sectors)%(f.Sectors+c(20)/19), string(c.bytes(64))) },
		func() api.Record { return typed(at, string(c.bytes(of(c, 3, 3, 3, 3, 3, 3, 3, 3, 256)))) },
		func() api.Record { return typed(at, string(c.bytes(5))) },
		func() api.Record { return packet(at, string(c.bytes(12))) },
		func() api.Record { return source(at, 1+c(4), c.set()) },
		func() api.Record { return sink(at, 1+c(4), c.set()) },
		func() api.Record { return strict(at, of(c, 0, c.set(), highestSet)) },
	)()
}

// start are the records that a life begins with: a program without sets, and bytes that it may ask for.
func (c chance) start(t *testing.T, f api.Form) []api.Record {
	return []api.Record{
		sink(0, 1, c.set()), sink(0, 3, c.set()), sink(0, 4, c.set()), source(0, 4, c.set()), source(0, 2, c.set()), strict(0, of(c, 0, c.set(), highestSet)), source(0, 1, 0), image(0, 0, c.image(t, f)), source(0, 1, c.set()), typed(0, string(c.bytes(6))), source(0, 3, c.set()), typed(0, string(c.bytes(6))),
		packet(0, string(c.bytes(20))), onDisk(0, 0, string(c.bytes(64))), image(0, 64*f.Frames-free, c.bytes(free)),
	}
}

// tally counts what came about in runs, so that what did not is found.
type tally map[string]int

// atLeast fails where something came about less often.
func (seen tally) atLeast(t *testing.T, often int, all ...string) {
	t.Helper()
	for _, what := range all {
		if seen[what] < often {
			t.Errorf("%s came about %d times", what, seen[what])
		}
	}
}
