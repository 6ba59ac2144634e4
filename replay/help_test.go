package replay

import (
	"bytes"
	"maps"
	"slices"
	"strconv"
	"strings"
	"testing"

	"pomander/api"
	"pomander/board"
	"pomander/isa"
	"pomander/log"
	"pomander/tower"
)

const (
	highestSet = 1<<api.MaxLabels - 1
	highest    = 65536   // a bound of sets, and steps of a run
	last       = 1 << 62 // the greatest At, and End
)

// form is a form, in short.
func form(frames, sectors int) api.Form { return api.Form{Frames: frames, Sectors: sectors} }

// tracking is a setup that tracks, of two frames and two sectors.
func tracking(most int, r api.Rules) api.Setup {
	return api.Setup{Form: form(2, 2), Track: true, Most: most, Rules: r}
}

// fullRules are rules of which each set is another one.
func fullRules() api.Rules {
	return api.Rules{Sources: [5]uint32{0, 1, 258, 3, 1 << 15}, Sinks: [5]uint32{0, 5, highestSet, 7, 0x9ab0}, Strict: 0xcd}
}

// Records, in short.
func image(at int64, n int, b []byte) api.Record {
	return api.Record{At: at, Kind: api.RecordImage, N: n, Bytes: b}
}

func onDisk(at int64, n int, text string) api.Record {
	return api.Record{At: at, Kind: api.RecordDisk, N: n, Bytes: []byte(text)}
}

func typed(at int64, text string) api.Record {
	return api.Record{At: at, Kind: api.RecordConsole, Bytes: []byte(text)}
}

func packet(at int64, text string) api.Record {
	return api.Record{At: at, Kind: api.RecordNet, Bytes: []byte(text)}
}

func source(at int64, n int, set uint16) api.Record {
	return api.Record{At: at, Kind: api.RecordSource, N: n, Bytes: twoBytes(set)}
}

func sink(at int64, n int, set uint16) api.Record {
	return api.Record{At: at, Kind: api.RecordSink, N: n, Bytes: twoBytes(set)}
}

func strict(at int64, set uint16) api.Record {
	return api.Record{At: at, Kind: api.RecordStrict, Bytes: twoBytes(set)}
}

// twoBytes is a set as bytes.
func twoBytes(set uint16) []byte { return []byte{byte(set % 256), byte(set / 256)} }

// logOf is one of two frames and two sectors that has records, and is not whole.
func logOf(most int, l ...api.Record) api.Log {
	return api.Log{Form: form(2, 2), Most: most, Records: l}
}

// wholeOf has records, and an end.
func wholeOf(end int64, most int, l ...api.Record) api.Log {
	whole := logOf(most, l...)
	whole.Whole, whole.End = true, end
	return whole
}

// code is a program's bytes, told by its instructions' texts, or by numbers.
func code(t *testing.T, lines ...string) []byte {
	t.Helper()
	var all []byte
	for _, line := range lines {
		w := word(t, line)
		all = append(all, byte(w), byte(w>>8), byte(w>>16), byte(w>>24))
	}
	return all
}

func word(t *testing.T, line string) uint32 {
	t.Helper()
	if n, err := strconv.ParseUint(line, 10, 32); err == nil {
		return uint32(n)
	}
	parts := strings.FieldsFunc(line, func(r rune) bool { return r == ' ' || r == ',' })
	var i api.Inst
	i.Op, _ = isa.Number(parts[0])
	registers := []*int{&i.A, &i.B}
	for _, part := range parts[1:] {
		to := &i.Imm
		if part[0] == 'r' {
			to, part = registers[0], part[1:]
			registers = registers[1:]
		}
		*to, _ = strconv.Atoi(part)
	}
	w, errno := isa.Encode(i)
	if text, _ := isa.Text(i); errno != api.OK || text != line {
		t.Fatalf("%q is no instruction", line)
	}
	return w
}

// started starts a recorder, with a program.
func started(t *testing.T, s api.Setup, lines ...string) *Recorder {
	t.Helper()
	r, errno := Start(s)
	if r == nil || errno != api.OK {
		t.Fatalf("Start(%v) is %v, %v", s, r, errno)
	}
	if len(lines) > 0 {
		goes(t, r.Load(0, code(t, lines...)))
	}
	return r
}

// made makes a replay.
func made(t *testing.T, l api.Log, track bool) *Replay {
	t.Helper()
	p, errno := New(l, track)
	if p == nil || errno != api.OK {
		t.Fatalf("New(%v) is %v, %v", l, p, errno)
	}
	return p
}

// goes fails where a call is refused.
func goes(t *testing.T, errno api.Errno) {
	t.Helper()
	if errno != api.OK {
		t.Fatalf("a call is refused: %v", errno)
	}
}

// recorded fails where a recorder's log has other records, whole or not.
func recorded(t *testing.T, r *Recorder, wanted ...api.Record) {
	t.Helper()
	s := r.Tower().Setup()
	l := api.Log{Form: s.Form, Most: s.Most, Records: wanted}
	if !s.Track {
		l.Most = 65536
	}
	isLog(t, r.Log(false), l)
	l.Whole, l.End = true, r.Tower().Board().Now()
	isLog(t, r.Log(true), l)
}

// isLog fails where a log is another one, or one that may not be.
func isLog(t *testing.T, got, wanted api.Log) {
	t.Helper()
	if !log.Same(got, wanted) {
		t.Errorf("the log is %v, not %v", got, wanted)
	}
	if errno := log.Check(got); errno != api.OK {
		t.Errorf("a log that may not be: %v, %v", got, errno)
	}
}

// sameRan tells whether two runs are the same.
func sameRan(a, b api.Ran) bool {
	return a.Steps == b.Steps && a.Why == b.Why && a.Kind == b.Kind && a.Pc == b.Pc && a.Word == b.Word && a.Cause == b.Cause &&
		slices.Equal(a.Alerts, b.Alerts)
}

func samePlayed(a, b api.Played) bool {
	return a.Steps == b.Steps && a.Why == b.Why && slices.Equal(a.Alerts, b.Alerts)
}

// plays fails where a replay's run is another one.
func plays(t *testing.T, p *Replay, n int, wanted api.Played) {
	t.Helper()
	if got, errno := p.Run(n); errno != api.OK || !samePlayed(got, wanted) {
		t.Errorf("Run(%d) is %v, %v, not %v", n, got, errno, wanted)
	}
}

// isOver fails where a replay is over for another reason (PlayOut: where it is over).
func isOver(t *testing.T, p *Replay, wanted api.PlayWhy) {
	t.Helper()
	if why, over := p.Over(); why != wanted || over != (wanted != api.PlayOut) {
		t.Errorf("Over is %d, %t, not %d", why, over, wanted)
	}
}

// standing is what a tower tells of itself: its board, its sets, its rules.
type standing struct {
	board *board.Board
	sets  map[api.Place]uint32
	rules api.Rules
}

func stands(x *tower.Tower) standing {
	s := standing{board: x.Board(), rules: x.Setup().Rules}
	if x.Setup().Track {
		s.sets = maps.Collect(x.Flow().All())
	}
	return s
}

// differs tells in what one is not the other.
func (s standing) differs(other standing) string {
	switch {
	case !board.Same(s.board, other.board):
		return "the board"
	case !maps.Equal(s.sets, other.sets):
		return "the sets"
	case s.rules != other.rules:
		return "the rules"
	}
	return ""
}

// stays fails where a tower does not stand as it did.
func (s standing) stays(t *testing.T, name string, x *tower.Tower) {
	t.Helper()
	if what := s.differs(stands(x)); what != "" {
		t.Errorf("%s: another one is: %s", name, what)
	}
}

// spoil does to a tower whatever may be done to one.
func spoil(x *tower.Tower) {
	x.Strict(0)
	x.Source(api.SourceImage, 0x40)
	x.Sink(api.SinkPc, 0x40)
	x.Load(0, []byte{9, 9, 9, 9})
	x.Write(0, []byte{9})
	x.Type([]byte{9})
	x.Send([]byte{9})
	x.Run(3)
}

// cloned is the same log, in memory of its own.
func cloned(l api.Log) api.Log {
	l.Records = slices.Clone(l.Records)
	for n := range l.Records {
		l.Records[n].Bytes = bytes.Clone(l.Records[n].Bytes)
	}
	return l
}
