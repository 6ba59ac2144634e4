package tower

import (
	"bytes"
	"maps"
	"slices"
	"strconv"
	"strings"
	"testing"

	"pomander/api"
	"pomander/board"
	"pomander/flow"
	"pomander/isa"
	"pomander/query"
)

const (
	highestSet = 1<<api.MaxLabels - 1
	highest    = 65536
)

// noSets are words with a bit that is no label, labels beside it or not.
var noSets = []uint32{1 << 16, 1<<16 | 1, 1<<17 - 1, 1 << 31, 1<<32 - 1}

// noTowers are towers that New did not make: their answers are those of none.
func noTowers() map[string]*Tower {
	refusedForm, _ := New(api.Setup{})
	refusedBound, _ := New(api.Setup{Form: form(1, 1), Track: true})
	refusedRules, _ := New(api.Setup{Form: form(1, 1), Rules: api.Rules{Strict: 1 << 16}})
	return map[string]*Tower{
		"nil": nil, "zero": {}, "copy of none": (*Tower)(nil).Copy(), "copy of a zero one": (&Tower{}).Copy(),
		"refused its form": refusedForm, "refused its bound": refusedBound, "refused its rules": refusedRules,
	}
}

// form is a form, in short.
func form(frames, sectors int) api.Form { return api.Form{Frames: frames, Sectors: sectors} }

// place is a place, in short.
func place(kind api.PlaceKind, n int) api.Place { return api.Place{Kind: kind, N: n} }

func reg(n int) api.Place    { return place(api.PlaceReg, n) }
func mem(n int) api.Place    { return place(api.PlaceMem, n) }
func sector(n int) api.Place { return place(api.PlaceSector, n) }
func typed(n int) api.Place  { return place(api.PlaceIn, n) }
func told(n int) api.Place   { return place(api.PlaceOut, n) }
func packet(n int) api.Place { return place(api.PlacePacket, n) }
func sent(n int) api.Place   { return place(api.PlaceSent, n) }
func tlb(n int) api.Place    { return place(api.PlaceTlb, n) }

func alone(kind api.PlaceKind) api.Place { return place(kind, 0) }

// word is an instruction's, told by its text, or a number.
func word(t *testing.T, line string) uint32 {
	t.Helper()
	if n, err := strconv.ParseUint(line, 10, 32); err == nil {
		return uint32(n)
	}
	parts := strings.FieldsFunc(line, func(r rune) bool { return r == ' ' || r == ',' })
	var i api.Inst
	i.Op, _ = isa.Number(parts[0])
	registers := []*int{&i.A, &i.B}
	for _, part := range parts[1:] {
		to := &i.Imm
		if part[0] == 'r' {
			to, part = registers[0], part[1:]
			registers = registers[1:]
		}
		*to, _ = strconv.Atoi(part)
	}
	w, errno := isa.Encode(i)
	if text, _ := isa.Text(i); errno != api.OK || text != line {
		t.Fatalf("%q is no instruction", line)
	}
	return w
}

// code is a program's bytes.
func code(t *testing.T, lines ...string) []byte {
	t.Helper()
	var all []byte
	for _, line := range lines {
		w := word(t, line)
		all = append(all, byte(w), byte(w>>8), byte(w>>16), byte(w>>24))
	}
	return all
}

// tracking is a setup that tracks, of two frames and two sectors.
func tracking(most int, r api.Rules) api.Setup {
	return api.Setup{Form: form(2, 2), Track: true, Most: most, Rules: r}
}

// sources are rules that give sources sets: of bytes that are loaded, written, typed, sent.
func sources(sets ...uint32) api.Rules {
	var r api.Rules
	copy(r.Sources[1:], sets)
	return r
}

// made makes a tower of a setup, with a program.
func made(t *testing.T, s api.Setup, lines ...string) *Tower {
	t.Helper()
	x, errno := New(s)
	if x == nil || errno != api.OK {
		t.Fatalf("New(%v) is %v, %v", s, x, errno)
	}
	if len(lines) > 0 {
		comes(t, x.Load(0, code(t, lines...)))
	}
	return x
}

// comes fails where a call is refused.
func comes(t *testing.T, errno api.Errno) {
	t.Helper()
	if errno != api.OK {
		t.Fatalf("a call is refused: %v", errno)
	}
}

// like tells whether two runs are the same.
func like(a, b api.Ran) bool {
	return a.Steps == b.Steps && a.Why == b.Why && a.Kind == b.Kind && a.Pc == b.Pc && a.Word == b.Word && a.Cause == b.Cause &&
		slices.Equal(a.Alerts, b.Alerts)
}

// runs fails where a run is another one.
func runs(t *testing.T, x *Tower, n int, wanted api.Ran) {
	t.Helper()
	if got, errno := x.Run(n); errno != api.OK || !like(got, wanted) {
		t.Errorf("Run(%d) is %+v, %v, not %+v", n, got, errno, wanted)
	}
}

// goes fails where a run has more or fewer steps, or ends otherwise; it tells the run.
func goes(t *testing.T, x *Tower, n, steps int, why api.RanWhy) api.Ran {
	t.Helper()
	got, errno := x.Run(n)
	if errno != api.OK || got.Steps != steps || got.Why != why {
		t.Fatalf("Run(%d) is %+v, %v, not %d steps, ended by %d", n, got, errno, steps, why)
	}
	return got
}

// has fails where a place of a tower has another set.
func has(t *testing.T, x *Tower, p api.Place, wanted uint32) {
	t.Helper()
	if got, errno := x.Flow().Get(p); errno != api.OK || got != wanted {
		t.Errorf("%s has %d, %v, not %d", query.Text(p), got, errno, wanted)
	}
}

// haveAlone fails where other places of a tower have sets than these.
func haveAlone(t *testing.T, x *Tower, wanted map[api.Place]uint32) {
	t.Helper()
	got := maps.Collect(x.Flow().All())
	if !maps.Equal(got, wanted) {
		t.Errorf("the sets are %v, not %v", got, wanted)
	}
}

// keeps fails where a tower keeps other sets.
func keeps(t *testing.T, x *Tower, wanted ...uint32) {
	t.Helper()
	if got := x.Flow().Sets(); !slices.Equal(got, wanted) {
		t.Errorf("%v are kept, not %v", got, wanted)
	}
}

// someTowers are towers of which each part is other than at the beginning, one that tracks and one that does not, and some that are as they were made.
func someTowers(t *testing.T) map[string]*Tower {
	t.Helper()
	rules := api.Rules{Sources: [5]uint32{0, 0, 2, 1, 4}, Sinks: [5]uint32{0, 3, 4, 6, 8}, Strict: 8}
	all := map[string]*Tower{
		"tracks":          made(t, tracking(9, rules)),
		"does not":        made(t, api.Setup{Form: form(2, 2), Rules: rules}),
		"fresh":           made(t, tracking(1, api.Rules{})),
		"fresh, does not": made(t, api.Setup{Form: form(1, 1)}),
	}
	for _, name := range []string{"tracks", "does not"} {
		x := all[name]
		comes(t, x.Load(0, code(t, "in r1, 0", "sb r1, r0, 100", "out r1, 1", "addi r2, r0, 32", "out r2, 9", "jal r3, -5", "0", "0", "100", "3")))
		comes(t, x.Write(1, []byte("sector")))
		comes(t, x.Type([]byte("typed")))
		comes(t, x.Send([]byte("packet")))
		goes(t, x, 9, 9, api.RanOut)
	}
	return all
}

// standing is all that a tower tells of itself, in memory of its own, whatever that of the tower's answers is.
type standing struct {
	setup  api.Setup
	board  *board.Board
	flow   *flow.Flow
	places []api.Note // of all places that may have some
	notes  int
}

func stands(x *Tower) standing {
	h := x.History()
	return standing{x.Setup(), x.Board().Copy(), x.Flow().Copy(), notesOf(h), h.Len()}
}

// notesOf tells all notes of places that steps of few numbers touch, place by place.
func notesOf(h *query.History) []api.Note {
	var all []api.Note
	for kind := api.PlaceNone; kind <= api.PlaceAsk; kind++ {
		for n := range 600 {
			all = append(all, h.Notes(place(kind, n))...)
		}
	}
	return all
}

func sameNote(a, b api.Note) bool {
	return a.Step == b.Step && a.Place == b.Place && slices.Equal(a.From, b.From)
}

// differs tells in what one is not the other.
func (s standing) differs(other standing) string {
	switch {
	case s.setup != other.setup:
		return "the setup"
	case !board.Same(s.board, other.board):
		return "the board"
	case !flow.Same(s.flow, other.flow):
		return "the flow"
	case s.notes != other.notes || !slices.EqualFunc(s.places, other.places, sameNote):
		return "the history"
	}
	return ""
}

// stays fails where a tower does not stand as it did.
func (s standing) stays(t *testing.T, name string, x *Tower) {
	t.Helper()
	if what := s.differs(stands(x)); what != "" {
		t.Errorf("%s: changed is %s", name, what)
	}
}

// spare is a list with spare room behind it; changed tells whether any of that is another one.
func spare(content []byte) (list []byte, changed func() bool) {
	room := append(bytes.Clone(content), 0xaa, 0xbb, 0xcc)
	was := bytes.Clone(room)
	return room[:len(content):len(room)], func() bool { return !bytes.Equal(room, was) }
}
