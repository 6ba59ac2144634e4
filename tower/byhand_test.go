package tower

import (
	"maps"
	"slices"
	"strconv"
	"testing"

	"pomander/api"
	"pomander/board"
)

// byHand is a tower of plain lists, done by the chapters' sentences one behind the other, on a copy of the board at each step.
type byHand struct {
	setup api.Setup
	board *board.Board
	sets  map[api.Place]uint32 // those that are not empty
	kept  []uint32
	notes []api.Note
}

func handOf(s api.Setup) *byHand {
	b, _ := board.New(s.Form)
	return &byHand{setup: s, board: b, sets: map[api.Place]uint32{}, kept: []uint32{0}}
}

// keep keeps a set; false, if it can't be.
func (h *byHand) keep(set uint32) bool {
	if slices.Contains(h.kept, set) {
		return true
	}
	if len(h.kept) == h.setup.Most {
		return false
	}
	h.kept = append(h.kept, set)
	return true
}

// put gives a place a set.
func (h *byHand) put(p api.Place, set uint32) {
	if h.sets[p] = set; set == 0 {
		delete(h.sets, p)
	}
}

// together is what places have together.
func (h *byHand) together(l []api.Place) (set uint32) {
	for _, p := range l {
		set |= h.sets[p]
	}
	return set
}

// come lets bytes come.
func (h *byHand) come(e event) api.Errno {
	b := h.board.Copy()
	first, errno := e.n, api.OK
	switch e.kind {
	case loads:
		errno = b.Load(e.n, e.bytes)
	case writes:
		first, errno = 64*e.n, b.Write(e.n, e.bytes)
	case types:
		first, errno = b.Type(e.bytes)
	case sends:
		first, errno = b.Send(e.bytes)
	}
	if errno != api.OK {
		return errno
	}
	if h.setup.Track {
		set := h.setup.Rules.Sources[1+e.kind]
		if !h.keep(set) {
			return api.ErrFull
		}
		for n := range e.bytes {
			h.put(place([]api.PlaceKind{api.PlaceMem, api.PlaceSector, api.PlaceIn, api.PlacePacket}[e.kind], first+n), set)
		}
	}
	h.board = b
	return api.OK
}

// step does a step: its alerts, and why it is not done (RanOut, if it is).
func (h *byHand) step() (x api.Stepped, alerts []api.Alert, why api.RanWhy) {
	b := h.board.Copy()
	x, _ = b.Step()
	if x.Kind == api.StepHalted {
		return x, nil, api.RanHalted
	}
	if !h.setup.Track {
		h.board = b
		return x, nil, api.RanOut
	}
	news := map[api.Place]uint32{}
	for _, touch := range x.Touches {
		if touch.To.Kind == api.PlaceNone && h.together(touch.From)&h.setup.Rules.Strict != 0 {
			return x, nil, api.RanStopped
		}
	}
	for _, touch := range x.Touches {
		if touch.To.Kind == api.PlaceNone {
			continue
		}
		news[touch.To] = h.together(touch.From)
		if !h.keep(news[touch.To]) {
			return x, nil, api.RanFull
		}
		sink := map[api.PlaceKind]api.Sink{api.PlaceOut: 1, api.PlaceSent: 2, api.PlaceSector: 3, api.PlacePc: 4}[touch.To.Kind]
		if set := h.setup.Rules.Sinks[sink] & news[touch.To]; set != 0 {
			alerts = append(alerts, api.Alert{Place: touch.To, Set: set})
		}
	}
	for p, set := range news {
		h.put(p, set)
	}
	for _, touch := range x.Touches {
		if touch.To.Kind != api.PlaceNone {
			h.notes = append(h.notes, api.Note{Step: h.board.Now(), Place: touch.To, From: touch.From})
		}
	}
	h.board = b
	return x, alerts, api.RanOut
}

// run does steps.
func (h *byHand) run(n int) (ran api.Ran, errno api.Errno) {
	if n < 0 {
		return ran, api.ErrArg
	}
	for range n {
		x, alerts, why := h.step()
		if ran.Why = why; why != api.RanOut {
			break
		}
		ran.Steps++
		ran.Kind, ran.Pc, ran.Word, ran.Cause = x.Kind, x.Pc, x.Word, x.Cause
		ran.Alerts = append(ran.Alerts, alerts...)
	}
	return ran, api.OK
}

// does does an event.
func (h *byHand) does(e event) (ran api.Ran, errno api.Errno) {
	r := &h.setup.Rules
	set := map[eventKind]*uint32{forbids: &r.Strict}
	if e.n > 0 {
		set[gives], set[guards] = &r.Sources[e.n%5], &r.Sinks[e.n%5]
	}
	switch e.kind {
	case goesOn:
		return h.run(e.n)
	case gives, guards, forbids:
		if set[e.kind] == nil || e.set>>16 != 0 {
			return ran, api.ErrArg
		}
		*set[e.kind] = e.set
		return ran, api.OK
	}
	return ran, h.come(e)
}

// differs tells in what a tower is not the one by hand.
func (h *byHand) differs(x *Tower) string {
	switch {
	case x.Setup() != h.setup:
		return "the setup"
	case !board.Same(x.Board(), h.board):
		return "the board"
	case !h.setup.Track && (x.Flow() != nil || x.History() != nil):
		return "there are sets, or notes"
	case !h.setup.Track:
		return ""
	case !maps.Equal(maps.Collect(x.Flow().All()), h.sets):
		return "the sets"
	case !slices.Equal(x.Flow().Sets(), h.kept):
		return "what is kept"
	case x.History().Len() != len(h.notes):
		return "how many notes there are"
	}
	return ""
}

// notesDiffer tells of what place a tower has other notes.
func (h *byHand) notesDiffer(x *Tower) string {
	notes, history := map[api.Place][]api.Note{}, x.History()
	for _, note := range h.notes {
		notes[note.Place] = append(notes[note.Place], note)
	}
	for p, wanted := range notes {
		if !slices.EqualFunc(history.Notes(p), wanted, sameNote) {
			return "the notes of a place of the kind " + strconv.Itoa(int(p.Kind))
		}
	}
	return ""
}

// tally counts what came about in runs, so that what did not is found.
type tally map[string]int

func (c tally) count(h *byHand, e event, ran api.Ran, errno api.Errno) {
	c["event "+strconv.Itoa(int(e.kind))+": "+strconv.Itoa(int(errno))]++
	if e.kind != goesOn {
		return
	}
	c["why "+strconv.Itoa(int(ran.Why))]++
	c["kind "+strconv.Itoa(int(ran.Kind))]++
	if ran.Why > api.RanHalted && ran.Steps > 0 {
		c["ended in the midst"]++
	}
	for _, alert := range ran.Alerts {
		c["alert "+strconv.Itoa(int(alert.Place.Kind))]++
	}
	for p := range h.sets {
		c["place "+strconv.Itoa(int(p.Kind))]++
	}
	if !h.board.State().Super {
		c["lower"]++
	}
}

// anySetup is one of a small form, that mostly tracks; its bound is often a small one.
func (c chance) anySetup() api.Setup {
	s := api.Setup{Form: form(4+c(3), 1+c(2)), Rules: c.rules()}
	if c(6) > 0 {
		s.Track, s.Most = true, []int{64, 64, 7, 6, 6, 5, 5, 4, 4, 3, 2, 1}[c(12)]
	}
	return s
}

// start are the events that a tower begins with: a program, without sets, and bytes that it may ask for, some of them in its page table.
func (c chance) start(t *testing.T, s api.Setup) []event {
	size := 64 * s.Form.Frames
	return []event{
		{kind: gives, n: 1}, {kind: loads, bytes: c.image(t, s.Form)}, {kind: gives, n: 1, set: s.Rules.Sources[1]},
		{kind: types, bytes: c.bytes(6)}, {kind: gives, n: 3, set: c.set()}, {kind: types, bytes: c.bytes(6)}, {kind: sends, bytes: c.bytes(20)}, {kind: writes, bytes: c.bytes(64)},
		{kind: loads, n: size - pageTable, bytes: []byte{3}[:c(2)]}, {kind: loads, n: size - c(free), bytes: c.bytes(1)},
	}
}

// TestByHand: towers do what the ones by hand do, call by call.
func TestByHand(t *testing.T) { // P15.1, P15.2, P15.3
	seen := tally{}
	for seed := range uint32(700) {
		c := steady(seed)
		s := c.anySetup()
		x, h := made(t, s), handOf(s)
		todo := c.start(t, s)
		for range 30 {
			todo = append(todo, c.event(s.Form))
		}
		for n, e := range todo {
			if c(8) == 0 {
				x = x.Copy() // nothing is to be seen of it
			}
			ran, errno := e.does(x)
			wanted, wantedErrno := h.does(e)
			if errno != wantedErrno || !like(ran, wanted) {
				t.Fatalf("seed %d, event %d, %v: %+v, %v, not %+v, %v", seed, n, e, ran, errno, wanted, wantedErrno)
			}
			if what := h.differs(x); what != "" {
				t.Fatalf("seed %d, event %d, %v: another one is: %s", seed, n, e, what)
			}
			seen.count(h, e, ran, errno)
		}
		if what := h.notesDiffer(x); what != "" {
			t.Fatalf("seed %d: another one is: %s", seed, what)
		}
	}
	for _, what := range []string{
		"why 0", "why 1", "why 2", "why 3", "kind 0", "kind 1", "kind 2", "kind 3", "ended in the midst", "lower",
		"alert 2", "alert 12", "alert 14", "alert 16", "event 0: 0", "event 0: 3", "event 0: 4", "event 0: 120", "event 1: 0", "event 1: 3", "event 1: 4", "event 1: 120",
		"event 2: 0", "event 2: 3", "event 2: 120", "event 3: 0", "event 3: 3", "event 3: 120", "event 4: 0", "event 4: 2", "event 5: 0", "event 5: 2", "event 6: 0", "event 6: 2", "event 7: 2",
		"place 1", "place 2", "place 3", "place 5", "place 6", "place 7", "place 8", "place 9", "place 10", "place 11", "place 12", "place 13", "place 14", "place 15", "place 16",
	} {
		if seen[what] < 5 {
			t.Errorf("%s came about %d times", what, seen[what])
		}
	}
}
