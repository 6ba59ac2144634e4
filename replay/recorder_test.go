package replay

import (
	"bytes"
	"math"
	"strconv"
	"strings"
	"testing"

	"pomander/api"
	"pomander/log"
)

// noSets are words with a bit that is no label, labels beside it or not.
var noSets = []uint32{1 << 16, 1<<16 | 1, 1<<17 - 1, 1 << 31, 1<<32 - 1}

// noRecorders are recorders that Start did not make.
func noRecorders() map[string]*Recorder {
	refused, _ := Start(api.Setup{})
	return map[string]*Recorder{"nil": nil, "zero": {}, "refused": refused}
}

// machine is what may be told something, and do steps: a tower, or a recorder.
type machine interface {
	Load(at int, b []byte) api.Errno
	Write(sector int, b []byte) api.Errno
	Type(b []byte) api.Errno
	Send(p []byte) api.Errno
	Source(s api.Source, set uint32) api.Errno
	Sink(s api.Sink, set uint32) api.Errno
	Strict(set uint32) api.Errno
	Run(n int) (api.Ran, api.Errno)
}

func TestExample(t *testing.T) { // P17.1
	r := started(t, api.Setup{Form: form(1, 1)})
	goes(t, r.Type([]byte("hi")))
	if ran, errno := r.Run(3); ran.Steps != 3 || errno != api.OK {
		t.Fatalf("Run(3) is %v, %v", ran, errno)
	}
	goes(t, r.Type([]byte("x")))
	recorded(t, r, typed(0, "hi"), typed(3, "x"))
	if l := r.Log(true); l.End != 3 || !l.Whole || l.Form != form(1, 1) {
		t.Errorf("the log is %v", l)
	}
}

// TestMost: a log has its setup's form and bound; of one that tracks not the greatest one.
func TestMost(t *testing.T) { // P17.1
	for _, f := range []api.Form{form(1, 1), form(32, 1), form(1, 32), form(7, 9), form(32, 32)} {
		for _, most := range []int{1, 2, 77, highest - 1, highest} {
			r := started(t, api.Setup{Form: f, Track: true, Most: most})
			isLog(t, r.Log(false), api.Log{Form: f, Most: most})
			isLog(t, r.Log(true), api.Log{Form: f, Most: most, Whole: true})
		}
		r := started(t, api.Setup{Form: f})
		isLog(t, r.Log(false), api.Log{Form: f, Most: 65536})
		isLog(t, r.Log(true), api.Log{Form: f, Most: 65536, Whole: true})
	}
}

// TestRulesOfTheSetup: those that are not empty, of sources, of sinks, by their kinds, then the strict set.
func TestRulesOfTheSetup(t *testing.T) { // P17.1
	for name, row := range map[string]struct {
		rules  api.Rules
		wanted []api.Record
	}{
		"none":               {},
		"a source":           {api.Rules{Sources: [5]uint32{3: 258}}, []api.Record{source(0, 3, 258)}},
		"a sink":             {api.Rules{Sinks: [5]uint32{3: 258}}, []api.Record{sink(0, 3, 258)}},
		"strict":             {api.Rules{Strict: 258}, []api.Record{strict(0, 258)}},
		"the first ones":     {api.Rules{Sources: [5]uint32{1: 1}, Sinks: [5]uint32{1: 1}}, []api.Record{source(0, 1, 1), sink(0, 1, 1)}},
		"the last ones":      {api.Rules{Sources: [5]uint32{4: highestSet}, Sinks: [5]uint32{4: highestSet}}, []api.Record{source(0, 4, highestSet), sink(0, 4, highestSet)}},
		"a source, strict":   {api.Rules{Sources: [5]uint32{2: 9}, Strict: 1 << 15}, []api.Record{source(0, 2, 9), strict(0, 1<<15)}},
		"every other source": {api.Rules{Sources: [5]uint32{0, 4, 0, 2, 0}, Sinks: [5]uint32{0, 0, 3, 0, 1}}, []api.Record{source(0, 1, 4), source(0, 3, 2), sink(0, 2, 3), sink(0, 4, 1)}},
		"all": {fullRules(), []api.Record{
			source(0, 1, 1), source(0, 2, 258), source(0, 3, 3), source(0, 4, 1<<15),
			sink(0, 1, 5), sink(0, 2, highestSet), sink(0, 3, 7), sink(0, 4, 0x9ab0), strict(0, 0xcd),
		}},
	} {
		t.Run(name, func(t *testing.T) {
			for _, s := range []api.Setup{tracking(9, row.rules), {Form: form(2, 2), Rules: row.rules}} {
				r := started(t, s)
				recorded(t, r, row.wanted...)
				if got := r.Tower().Setup(); got != s {
					t.Errorf("the tower's setup is %v, not %v", got, s)
				}
				goes(t, r.Type([]byte("a"))) // behind them
				recorded(t, r, append(row.wanted, typed(0, "a"))...)
			}
		})
	}
}

func TestStartRefuses(t *testing.T) { // P17.1
	for _, s := range []api.Setup{
		{}, {Form: form(0, 1)}, {Form: form(1, 0)}, {Form: form(33, 1)}, {Form: form(1, 33)}, {Form: form(-1, 1)}, {Form: form(math.MaxInt, math.MinInt)},
		{Form: form(1, 1), Most: 1}, {Form: form(1, 1), Most: -1}, {Form: form(1, 1), Track: true}, {Form: form(1, 1), Track: true, Most: -1},
		{Form: form(1, 1), Track: true, Most: 65537}, {Form: form(1, 1), Rules: api.Rules{Strict: 1 << 16}},
		tracking(9, api.Rules{Sources: [5]uint32{1}}), tracking(9, api.Rules{Sinks: [5]uint32{1}}), tracking(9, api.Rules{Sources: [5]uint32{4: 1 << 31}}),
		{Form: form(1, 1), Rules: api.Rules{Sinks: [5]uint32{1}}}, tracking(9, api.Rules{Sinks: [5]uint32{2: 1 << 16}}),
	} {
		if r, errno := Start(s); r != nil || errno != api.ErrArg {
			t.Errorf("Start(%v) is %v, %v", s, r, errno)
		}
	}
}

// TestEachAct: each one that is recorded, with how many steps were done, one behind the other at one time.
func TestEachAct(t *testing.T) { // P17.1
	for name, s := range map[string]api.Setup{"tracks": tracking(20, api.Rules{}), "does not": {Form: form(2, 2)}} {
		t.Run(name, func(t *testing.T) {
			r := started(t, s)
			var wanted []api.Record
			for _, at := range []int64{0, 1, 1, 127, 300, 65836} {
				for now := r.Tower().Board().Now(); now < at; now = r.Tower().Board().Now() {
					if ran, errno := r.Run(min(int(at-now), highest)); errno != api.OK || ran.Steps == 0 {
						t.Fatalf("Run is %v, %v", ran, errno)
					}
				}
				all := bytes.Repeat([]byte("content."), 16)
				for _, errno := range []api.Errno{
					r.Strict(0x8001), r.Strict(0), r.Load(0, nil), r.Load(127, []byte{7}), r.Load(64, all[:64]), r.Load(0, make([]byte, 128)),
					r.Write(0, nil), r.Write(1, []byte("sector")), r.Write(1, all[:64]), r.Type(nil), r.Type([]byte("ab")), r.Send(nil), r.Send(all[:64]), r.Send([]byte("c")),
					r.Source(api.SourceNet, 0), r.Source(api.SourceImage, 1), r.Source(api.SourceImage, 1), r.Source(api.SourceDisk, 0x102), r.Source(api.SourceConsole, highestSet),
					r.Sink(api.SinkPc, 0), r.Sink(api.SinkConsole, highestSet), r.Sink(api.SinkNet, 0x203), r.Sink(api.SinkDisk, 1<<15), r.Source(api.SourceImage, 0),
				} {
					goes(t, errno)
				}
				wanted = append(wanted,
					strict(at, 0x8001), strict(at, 0), image(at, 0, nil), image(at, 127, []byte{7}), image(at, 64, all[:64]), image(at, 0, make([]byte, 128)),
					onDisk(at, 0, ""), onDisk(at, 1, "sector"), onDisk(at, 1, string(all[:64])), typed(at, ""), typed(at, "ab"), packet(at, ""), packet(at, string(all[:64])), packet(at, "c"),
					source(at, 4, 0), source(at, 1, 1), source(at, 1, 1), source(at, 2, 0x102), source(at, 3, highestSet),
					sink(at, 4, 0), sink(at, 1, highestSet), sink(at, 2, 0x203), sink(at, 3, 1<<15), source(at, 1, 0),
				)
				recorded(t, r, wanted...)
			}
		})
	}
}

// TestLongestAct: the most that may come, and as far away as there is something.
func TestLongestAct(t *testing.T) { // P17.1
	r := started(t, api.Setup{Form: form(32, 32)})
	much := bytes.Repeat([]byte("sixteen bytes...,"), 130)
	goes(t, r.Load(0, much[:2048]))
	goes(t, r.Load(2047, much[:1]))
	goes(t, r.Write(31, much[:64]))
	goes(t, r.Type(much[:256]))
	goes(t, r.Send(much[:64]))
	recorded(t, r, image(0, 0, much[:2048]), image(0, 2047, much[:1]), onDisk(0, 31, string(much[:64])), typed(0, string(much[:256])), packet(0, string(much[:64])))
}

// refusals are calls that a machine of two frames and two sectors refuses, where the console's source has a set that can't be kept, and a byte waits there.
func refusals() map[string]func(m machine) api.Errno {
	all := map[string]func(m machine) api.Errno{
		"Load below":      func(m machine) api.Errno { return m.Load(-1, nil) },
		"Load beyond":     func(m machine) api.Errno { return m.Load(128, nil) },
		"Load far":        func(m machine) api.Errno { return m.Load(math.MaxInt, []byte{1}) },
		"Load too much":   func(m machine) api.Errno { return m.Load(127, []byte{1, 2}) },
		"Write below":     func(m machine) api.Errno { return m.Write(-1, nil) },
		"Write beyond":    func(m machine) api.Errno { return m.Write(2, nil) },
		"Write too much":  func(m machine) api.Errno { return m.Write(1, make([]byte, 65)) },
		"Type too much":   func(m machine) api.Errno { return m.Type(make([]byte, 256)) },
		"Type full":       func(m machine) api.Errno { return m.Type([]byte{1}) },
		"Type full, none": func(m machine) api.Errno { return m.Type(nil) },
		"Send too much":   func(m machine) api.Errno { return m.Send(make([]byte, 65)) },
		"Run below":       func(m machine) api.Errno { _, errno := m.Run(-1); return errno },
		"Run beyond":      func(m machine) api.Errno { _, errno := m.Run(65537); return errno },
	}
	for _, kind := range []int{0, 5, -1, 257, math.MaxInt, math.MinInt} {
		name := " of the kind " + strconv.Itoa(kind)
		all["Source"+name] = func(m machine) api.Errno { return m.Source(api.Source(kind), 1) }
		all["Sink"+name] = func(m machine) api.Errno { return m.Sink(api.Sink(kind), 1) }
	}
	for _, set := range noSets {
		name := " of the set " + strconv.Itoa(int(set))
		all["Source"+name] = func(m machine) api.Errno { return m.Source(1, set) }
		all["Sink"+name] = func(m machine) api.Errno { return m.Sink(1, set) }
		all["Strict"+name] = func(m machine) api.Errno { return m.Strict(set) }
	}
	return all
}

// TestRefused: what the tower refuses is answered as the tower does, and is not recorded.
func TestRefused(t *testing.T) { // P17.1
	rules := api.Rules{Sources: [5]uint32{3: 2}}
	r := started(t, tracking(2, rules))
	goes(t, r.Type([]byte("a")))
	goes(t, r.Source(api.SourceConsole, 4))
	wanted := []api.Record{source(0, 3, 2), typed(0, "a"), source(0, 3, 4)}
	for name, call := range refusals() {
		before := stands(r.Tower())
		if errno, towers := call(r), call(r.Tower()); errno != towers || errno == api.OK {
			t.Errorf("%s: %v, of a tower %v", name, errno, towers)
		}
		before.stays(t, name, r.Tower())
		recorded(t, r, wanted...)
	}
	goes(t, r.Source(api.SourceConsole, 2)) // then what is typed has a set that is kept already
	goes(t, r.Type([]byte{}))
	recorded(t, r, append(wanted, source(0, 3, 2), typed(0, ""))...)
}

func TestNoRecorder(t *testing.T) { // P17.1
	for name, r := range noRecorders() {
		for call, do := range refusals() {
			if errno := do(r); errno != api.ErrNil {
				t.Errorf("%s: %s is %v", name, call, errno)
			}
		}
		ran, errno := r.Run(1)
		if errno != api.ErrNil || !sameRan(ran, api.Ran{}) {
			t.Errorf("%s: Run is %v, %v", name, ran, errno)
		}
		for call, errno := range map[string]api.Errno{
			"Load": r.Load(0, []byte{1}), "Write": r.Write(0, []byte{1}), "Type": r.Type([]byte{1}), "Send": r.Send([]byte{1}),
			"Source": r.Source(1, 1), "Sink": r.Sink(1, 1), "Strict": r.Strict(1),
		} {
			if errno != api.ErrNil {
				t.Errorf("%s: %s is %v", name, call, errno)
			}
		}
		for _, whole := range []bool{false, true} {
			if l := r.Log(whole); !log.Same(l, api.Log{}) {
				t.Errorf("%s: its log is %v", name, l)
			}
		}
		if r.Tower() != nil {
			t.Errorf("%s: it has a tower", name)
		}
	}
}

// TestRunsAreNotRecorded: nor is one that ends, whatever for; a log has no more for them.
func TestRunsAreNotRecorded(t *testing.T) { // P17.1
	r := started(t, tracking(2, api.Rules{Sources: [5]uint32{3: 1}, Strict: 1}), "in r1, 0", "beq r1, r2, 1", "halt")
	goes(t, r.Type([]byte("a")))
	first := []api.Record{source(0, 3, 1), strict(0, 1), image(0, 0, code(t, "in r1, 0", "beq r1, r2, 1", "halt")), typed(0, "a")}
	for _, n := range []int{0, 1, 0, 9, 9} {
		r.Run(n)
	}
	recorded(t, r, first...)
	goes(t, r.Strict(0))
	for _, n := range []int{9, 9, 0} {
		r.Run(n)
	}
	recorded(t, r, append(first, strict(1, 0))...)
	if l := r.Log(true); l.End != 3 {
		t.Errorf("its end is %d", l.End)
	}
}

// TestGivenIsNotKept: what a recorder was given may be changed, and so may what it tells.
func TestGivenIsNotKept(t *testing.T) { // P17.1
	r := started(t, tracking(9, fullRules()))
	goes(t, r.Strict(0))
	room := []byte(strings.Repeat("spare room ", 8))
	given := bytes.Clone(room)
	calls := []func(b []byte) api.Errno{func(b []byte) api.Errno { return r.Load(5, b) }, func(b []byte) api.Errno { return r.Write(1, b) }, r.Type, r.Send}
	for n, call := range calls {
		goes(t, call(given[n:n+8]))
		if !bytes.Equal(given, room) {
			t.Errorf("what was given is %q", given)
		}
	}
	clear(given)
	wanted := cloned(r.Log(true))
	for n, b := range [][]byte{room[:8], room[1:9], room[2:10], room[3:11]} {
		if got := wanted.Records[len(wanted.Records)-4+n].Bytes; !bytes.Equal(got, b) {
			t.Errorf("the record %d has %q, not %q", n, got, b)
		}
	}
	before := stands(r.Tower())
	for range 2 {
		l := r.Log(true)
		for n := range l.Records {
			own := l.Records[n].Bytes
			clear(own[:cap(own)])
			_ = append(own, 9, 9, 9)
			l.Records[n] = api.Record{}
		}
		_ = append(l.Records, api.Record{})
		spoil(r.Tower())
		isLog(t, r.Log(true), wanted)
		before.stays(t, "what is told was changed", r.Tower())
	}
	l := r.Log(true)
	goes(t, r.Type([]byte("more")))
	isLog(t, l, wanted)
	recorded(t, r, append(wanted.Records, typed(0, "more"))...)
}
