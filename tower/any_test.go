package tower

import (
	"strconv"
	"testing"

	"pomander/api"
)

// chance tells numbers by a fixed rule, so that every run sees the same ones.
type chance func(below int) int

func steady(seed uint32) chance {
	seed *= 2654435761 // so that what is told first of seeds in a row is not alike
	return func(below int) int {
		seed = seed*1664525 + 1013904223
		return int(uint64(seed) * uint64(below) >> 32)
	}
}

// set is one of few labels, often none.
func (c chance) set() uint32 { return uint32(1<<c(4)|1<<c(4)) * uint32(c(2)) }

func (c chance) bytes(most int) []byte {
	l := make([]byte, c(most+1))
	for n := range l {
		l[n] = byte(c(256))
		if c(2) == 0 {
			l[n] = byte(4 * c(32)) // an address
		}
	}
	return l
}

func (c chance) rules() api.Rules {
	r := api.Rules{Strict: c.set() * uint32(c(2))}
	for kind := 1; kind <= 4; kind++ {
		r.Sources[kind], r.Sinks[kind] = c.set(), c.set()
	}
	return r
}

// Where a program's words for its commands, and the bytes that it may use, lie, from memory's end on; its page table lies ahead of them.
const (
	diskCommand = 64
	receives    = 52
	sendsOff    = 44
	free        = 32
	pageTable   = 96
)

// snippet is some instructions that mean something in a memory of so many bytes: they take what came, move it, and let it do something.
func (c chance) snippet(size int) []string {
	a, b, at := reg1to7(c), reg1to7(c), strconv.Itoa(size-1-c(free))
	command := strconv.Itoa(size - []int{diskCommand, receives, sendsOff}[c(3)])
	port := map[string]string{strconv.Itoa(size - diskCommand): "5", strconv.Itoa(size - receives): "7", strconv.Itoa(size - sendsOff): "9"}[command]
	all := [][]string{
		{"in " + a + ", 0"}, {"in " + a + ", 0", "out " + a + ", 1"}, {"in " + a + ", 0", "in " + b + ", 0", "or " + a + ", " + b},
		{"out " + a + ", 1"}, {"add " + a + ", " + b}, {"xor " + a + ", " + a}, {"mul " + a + ", " + b}, {"addi " + a + ", " + b + ", 4"},
		{"addi " + a + ", r0, " + command, "out " + a + ", " + port}, {"addi " + a + ", r0, " + command, "out " + a + ", " + port, "in " + b + ", 6", "in " + b + ", 8"},
		{"lb " + a + ", r0, " + at}, {"sb " + a + ", r0, " + at}, {"lw " + a + ", r0, " + strconv.Itoa(size-4-4*c(free/4))}, {"sw " + a + ", r0, " + strconv.Itoa(size-4-4*c(free/4))},
		{"lb " + a + ", r0, " + at, "sb " + a + ", r0, " + strconv.Itoa(size-1-c(diskCommand))}, {"lb " + a + ", " + b + ", 0"},
		{"addi " + a + ", r0, " + strconv.Itoa(c(16)), "out " + a + ", 4"}, {"addi " + a + ", r0, 6", "set " + a + ", 4"}, {"out " + a + ", 3"}, {"out " + a + ", 4"},
		{"set " + a + ", " + strconv.Itoa(c(6))}, {"get " + a + ", " + strconv.Itoa(c(6))}, {"beq " + a + ", " + b + ", 2"}, {"bne " + a + ", " + b + ", 2"}, {"jal " + a + ", 2"},
		{"call"}, {"flush"}, {"back"},
		{"addi " + a + ", r0, " + strconv.Itoa(size-pageTable), "set " + a + ", 3", "get " + a + ", 5", "addi " + a + ", " + a + ", 16", "set " + a + ", 0", "back"}, // goes on in the lower privilege
	}
	if c(150) == 0 {
		return []string{"halt"}
	}
	return all[c(len(all))]
}

// reg1to7 is a register that may have something; the register 0 stays as it is.
func reg1to7(c chance) string { return "r" + strconv.Itoa(1+c(7)) }

// image is a program with a page table and commands at its end. Noughts behind it trap, and so it begins anew.
func (c chance) image(t *testing.T, f api.Form) []byte {
	var lines []string
	size := 64 * f.Frames
	for 4*len(lines) < size-pageTable-4*8 {
		lines = append(lines, c.snippet(size)...)
	}
	for 4*len(lines) < size-pageTable {
		lines = append(lines, "0")
	}
	for page := range (pageTable - diskCommand) / 4 {
		lines = append(lines, strconv.Itoa(page%f.Frames<<8|3-c(7)/6))
	}
	lines = append(lines, strconv.Itoa(c(f.Sectors)), strconv.Itoa(size-64), strconv.Itoa(c(4)/3), strconv.Itoa(size-c(free)), strconv.Itoa(c(9)), strconv.Itoa(size-free-c(9)), strconv.Itoa(c(free)))
	return code(t, lines...)
}

// eventKind is what is done to a tower.
type eventKind int

const (
	loads eventKind = iota
	writes
	types
	sends
	gives
	guards
	forbids
	goesOn
	eventKinds
)

// event is a call of a tower, with its arguments.
type event struct {
	kind  eventKind
	n     int
	set   uint32
	bytes []byte
}

// event is one that comes behind the program; some are refused.
func (c chance) event(f api.Form) event {
	e := event{kind: eventKind(c(int(eventKinds) + 5)), n: c(5), set: c.set()}
	switch e.kind {
	case loads:
		e.n, e.bytes = 64*f.Frames-c(pageTable), c.bytes(8)
		if c(30) == 0 {
			e.n = -1
		}
	case writes:
		e.n, e.bytes = c(f.Sectors+1), c.bytes(66)
	case types:
		e.bytes = c.bytes(5)
		if c(20) == 0 {
			e.bytes = c.bytes(260)
		}
	case sends:
		e.bytes = c.bytes(12)
		if c(20) == 0 {
			e.bytes = c.bytes(130)
		}
	case forbids:
		e.set *= uint32(c(2))
	case gives, guards:
	default:
		e.kind, e.n = goesOn, c(50)-1
		if c(4) == 0 {
			e.n = c(3)
		}
	}
	if c(40) == 0 {
		e.set |= 1 << 16
	}
	return e
}

// does does an event.
func (e event) does(x *Tower) (ran api.Ran, errno api.Errno) {
	switch e.kind {
	case loads:
		errno = x.Load(e.n, e.bytes)
	case writes:
		errno = x.Write(e.n, e.bytes)
	case types:
		errno = x.Type(e.bytes)
	case sends:
		errno = x.Send(e.bytes)
	case gives:
		errno = x.Source(api.Source(e.n), e.set)
	case guards:
		errno = x.Sink(api.Sink(e.n), e.set)
	case forbids:
		errno = x.Strict(e.set)
	case goesOn:
		ran, errno = x.Run(e.n)
	}
	return ran, errno
}
