package board

import (
	"pomander/api"
	"pomander/cpu"
	"pomander/isa"
	"pomander/words"
)

// pages is how many the lower privilege has.
const pages = 16

// Causes of traps that are the board's; that of an interrupt is its line behind lineCause.
const (
	fetchCause = 3
	loadCause  = 4
	storeCause = 5
	alignCause = 6
	lineCause  = 16
)

// What a word of the page table has beside the frame, which stands from frameAt on.
const (
	isThere = 1 << iota
	mayBeWritten
	frameAt = 8
)

// access is what an address is come to for.
type access int

const (
	toRead access = iota
	toWrite
)

// trapped cuts a step short, by its cause.
type trapped uint32

// interrupted does so too, by the line.
type interrupted int

// stepping is a board as it does a step, and what is told of that; a and b are the word's registers.
type stepping struct {
	*Board
	told api.Stepped
	a, b api.Place
}

// Step does a step.
func (b *Board) Step() (told api.Stepped, refusal api.Errno) {
	if b.none() {
		return api.Stepped{}, api.ErrNil
	}
	if b.halted {
		return api.Stepped{Kind: api.StepHalted}, api.OK
	}
	s := &stepping{Board: b, told: api.Stepped{Kind: api.StepRan, Pc: b.state.Pc}}
	defer func() {
		switch cut := recover().(type) {
		case nil: // the step went through
		case trapped:
			s.trap(api.StepTrap, uint32(cut))
		case interrupted:
			s.trap(api.StepInt, lineCause+uint32(cut))
		default: // none of the step's own
			panic(cut)
		}
		b.now++
		told = s.told
	}()
	s.do()
	return told, refusal
}

// do does the step, till it is through or cut short.
func (s *stepping) do() {
	s.decide(alone(api.PlaceMode), alone(api.PlaceMask), alone(api.PlaceAlarm), alone(api.PlacePc))
	if line, pending := s.lines.Pending(s.now); pending && s.state.Enabled {
		s.cut(interrupted(line))
	}
	s.fetch()
	s.perform()
}

// cut cuts the step short, and tells a trap's touches.
func (s *stepping) cut(why any) {
	s.touch(cpu.Trapped()...)
	panic(why)
}

// trap does the trap that cut the step short.
func (s *stepping) trap(kind api.StepKind, cause uint32) {
	s.told.Kind, s.told.Cause = kind, cause
	s.state = cpu.Trap(s.state, cause)
}

// fetch tells the word that is to be done.
func (s *stepping) fetch() {
	if s.state.Pc%wordBytes != 0 {
		s.cut(trapped(alignCause))
	}
	at, is := s.come(s.state.Pc, wordBytes, toRead)
	if !is {
		s.cut(trapped(fetchCause))
	}
	s.decide(row(api.PlaceMem, int(at), wordBytes)...)
	s.told.Word = s.word(at)
	inst, _ := isa.Decode(s.told.Word)
	s.a, s.b = place(api.PlaceReg, inst.A), place(api.PlaceReg, inst.B)
}

// perform does what the word wants.
func (s *stepping) perform() {
	want, value := cpu.Plan(s.state, s.told.Word), uint32(0)
	at := s.target(want)
	s.touch(cpu.Touches(s.state, s.told.Word)...)
	switch want.Kind {
	case api.WantTrap: // its touches are told already
		panic(trapped(want.Cause))
	case api.WantLoad:
		value = s.load(at, want.Width)
	case api.WantStore:
		s.store(at, want.Width, want.Value)
	case api.WantIn:
		value = s.in(want.Port)
	case api.WantOut:
		s.out(want.Port, want.Value)
	case api.WantHalt:
		s.halted = true
	case api.WantFlush:
		s.flush()
	}
	s.state = cpu.Done(s.state, s.told.Word, value)
}

// target is where in memory a load, a store goes; of what is neither it is 0.
func (s *stepping) target(want api.Want) uint32 {
	how, cause := toRead, trapped(loadCause)
	switch want.Kind {
	case api.WantLoad:
	case api.WantStore:
		how, cause = toWrite, storeCause
	default:
		return 0
	}
	at, is := s.come(want.Addr, uint32(want.Width), how)
	if !is {
		s.decide(s.b)
		s.cut(cause)
	}
	return at
}

// load tells what stands there.
func (s *stepping) load(at uint32, width int) uint32 {
	value, _ := s.memory.Read(at, width)
	s.give(s.a, row(api.PlaceMem, int(at), width)...)
	return value
}

// store puts a value there.
func (s *stepping) store(at uint32, width int, value uint32) {
	s.memory.Write(at, width, value)
	for _, to := range row(api.PlaceMem, int(at), width) {
		s.give(to, s.a)
	}
}

// flush empties the TLB; entries that it had not get the empty set too.
func (s *stepping) flush() {
	s.tlb.Flush()
	for slot := range api.Entries {
		s.give(place(api.PlaceTlb, slot))
	}
}

// come tells where in memory an address is come to; false, if it is not.
func (s *stepping) come(address, width uint32, how access) (uint32, bool) {
	if s.state.Super {
		return address, s.has(address, width)
	}
	page, within := address/api.PageBytes, address%api.PageBytes
	if page >= pages {
		return 0, false
	}
	entry, is := s.entry(page)
	if !is || how == toWrite && !entry.Write {
		return 0, false
	}
	return entry.Frame*api.PageBytes + within, true
}

// entry tells a page's: the TLB's, or the table's, which the TLB has then.
func (s *stepping) entry(page uint32) (api.Entry, bool) {
	entry, slot, is := s.tlb.Look(page)
	if !is {
		entry, slot, is = s.walk(page)
	}
	if is {
		s.decide(place(api.PlaceTlb, slot))
	}
	return entry, is
}

// walk fills the TLB by the page table; false, if the table has not the page. A word that is in memory decides also where it lies at no multiple of 4.
func (s *stepping) walk(page uint32) (api.Entry, int, bool) {
	table := alone(api.PlaceTable)
	s.decide(table)
	at := words.Add(s.state.Table, words.Mul(wordBytes, page))
	if !s.has(at, wordBytes) {
		return api.Entry{}, 0, false
	}
	four := row(api.PlaceMem, int(at), wordBytes)
	s.decide(four...)
	word := s.word(at)
	entry := api.Entry{There: true, Page: page, Frame: words.Shr(word, frameAt), Write: word&mayBeWritten != 0}
	if at%wordBytes != 0 || word&isThere == 0 || !s.has(entry.Frame*api.PageBytes, api.PageBytes) {
		return api.Entry{}, 0, false
	}
	slot := s.tlb.Fill(entry)
	s.give(place(api.PlaceTlb, slot), append([]api.Place{table}, four...)...)
	return entry, slot, true
}

// touch tells touches behind those that were told.
func (s *stepping) touch(l ...api.Touch) { s.told.Touches = append(s.told.Touches, l...) }

func (s *stepping) give(to api.Place, from ...api.Place) { s.touch(api.Touch{To: to, From: from}) }

func (s *stepping) decide(from ...api.Place) { s.give(api.Place{}, from...) }

func alone(kind api.PlaceKind) api.Place { return api.Place{Kind: kind} }

func place(kind api.PlaceKind, n int) api.Place { return api.Place{Kind: kind, N: n} }

// row is n places, one behind the other.
func row(kind api.PlaceKind, first, n int) []api.Place {
	var all []api.Place
	for behind := range n {
		all = append(all, place(kind, first+behind))
	}
	return all
}
