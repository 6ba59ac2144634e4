package replay

import (
	"math"
	"strings"
	"testing"

	"pomander/api"
)

// turn is a run of a replay: of n steps so many are done, and why it is over then.
type turn struct {
	n, steps int
	why      api.PlayWhy
}

// noReplays are replays that New did not make.
func noReplays() map[string]*Replay {
	refused, _ := New(api.Log{}, false)
	return map[string]*Replay{"nil": nil, "zero": {}, "refused": refused}
}

// turns fails where a replay's runs are others, or it is over, or not, between them; what is over stays so.
func turns(t *testing.T, p *Replay, made api.PlayWhy, all ...turn) {
	t.Helper()
	isOver(t, p, made)
	why := made
	for _, row := range all {
		plays(t, p, row.n, api.Played{Steps: row.steps, Why: row.why})
		isOver(t, p, row.why)
		why = row.why
	}
	if why == api.PlayOut {
		return
	}
	before := stands(p.Tower())
	for _, n := range []int{0, 1, 2, highest} {
		plays(t, p, n, api.Played{Why: why})
		isOver(t, p, why)
	}
	before.stays(t, "over", p.Tower())
}

func TestReplayExample(t *testing.T) { // P17.2
	r := started(t, api.Setup{Form: form(1, 1)})
	goes(t, r.Type([]byte("hi")))
	r.Run(3)
	goes(t, r.Type([]byte("x")))
	turns(t, made(t, r.Log(true), false), api.PlayOut, turn{2, 2, api.PlayOut}, turn{9, 1, api.PlayEnd}, turn{1, 0, api.PlayEnd})
	turns(t, made(t, r.Log(false), false), api.PlayOut, turn{9, 3, api.PlayCut})
}

// TestEnds: memory of noughts traps at each step, so that nothing but the log ends a replay.
func TestEnds(t *testing.T) { // P17.2
	for name, row := range map[string]struct {
		l     api.Log
		made  api.PlayWhy
		turns [][]turn // each of a replay of its own
	}{
		"no records": {logOf(4), api.PlayCut, [][]turn{{}, {{0, 0, api.PlayCut}}, {{1, 0, api.PlayCut}}, {{highest, 0, api.PlayCut}}}},
		"no steps":   {wholeOf(0, 4), api.PlayEnd, [][]turn{{}, {{0, 0, api.PlayEnd}}, {{1, 0, api.PlayEnd}}, {{highest, 0, api.PlayEnd}}}},
		"cut at 0":   {logOf(4, typed(0, "a"), source(0, 1, 1)), api.PlayCut, [][]turn{{{3, 0, api.PlayCut}}}},
		"end at 0":   {wholeOf(0, 4, typed(0, "a"), source(0, 1, 1)), api.PlayEnd, [][]turn{{{3, 0, api.PlayEnd}}}},
		"cut at 1":   {logOf(4, typed(1, "a")), api.PlayOut, [][]turn{{{1, 1, api.PlayCut}}, {{2, 1, api.PlayCut}}, {{0, 0, api.PlayOut}, {highest, 1, api.PlayCut}}}},
		"end at 1":   {wholeOf(1, 4), api.PlayOut, [][]turn{{{1, 1, api.PlayEnd}}, {{2, 1, api.PlayEnd}}, {{0, 0, api.PlayOut}, {highest, 1, api.PlayEnd}}}},
		"cut at 5": {logOf(4, typed(2, "a"), typed(2, "b"), packet(4, ""), strict(5, 0)), api.PlayOut, [][]turn{
			{{5, 5, api.PlayCut}}, {{4, 4, api.PlayOut}, {1, 1, api.PlayCut}}, {{2, 2, api.PlayOut}, {0, 0, api.PlayOut}, {2, 2, api.PlayOut}, {3, 1, api.PlayCut}},
			{{1, 1, api.PlayOut}, {1, 1, api.PlayOut}, {1, 1, api.PlayOut}, {1, 1, api.PlayOut}, {1, 1, api.PlayCut}, {1, 0, api.PlayCut}}, {{highest, 5, api.PlayCut}},
		}},
		"end at 5": {wholeOf(5, 4, typed(2, "a"), typed(2, "b"), packet(4, ""), strict(5, 0)), api.PlayOut, [][]turn{
			{{5, 5, api.PlayEnd}}, {{4, 4, api.PlayOut}, {1, 1, api.PlayEnd}}, {{3, 3, api.PlayOut}, {highest, 2, api.PlayEnd}},
		}},
		"end behind the last record": {wholeOf(7, 4, typed(2, "a"), typed(4, "b")), api.PlayOut, [][]turn{
			{{7, 7, api.PlayEnd}}, {{4, 4, api.PlayOut}, {2, 2, api.PlayOut}, {0, 0, api.PlayOut}, {2, 1, api.PlayEnd}}, {{9, 7, api.PlayEnd}, {9, 0, api.PlayEnd}},
		}},
		"many steps": {wholeOf(2*highest+2, 4, typed(highest, "a")), api.PlayOut, [][]turn{
			{{highest, highest, api.PlayOut}, {0, 0, api.PlayOut}, {highest, highest, api.PlayOut}, {1, 1, api.PlayOut}, {highest, 1, api.PlayEnd}},
			{{1, 1, api.PlayOut}, {highest, highest, api.PlayOut}, {highest, highest, api.PlayOut}, {highest, 1, api.PlayEnd}},
		}},
		"the greatest end":         {wholeOf(last, 4, typed(1, "a")), api.PlayOut, [][]turn{{{highest, highest, api.PlayOut}, {1, 1, api.PlayOut}}}},
		"a record at the greatest": {logOf(4, typed(last, "a")), api.PlayOut, [][]turn{{{1, 1, api.PlayOut}, {highest, highest, api.PlayOut}}}},
	} {
		t.Run(name, func(t *testing.T) {
			for _, all := range row.turns {
				for _, track := range []bool{false, true} {
					turns(t, made(t, row.l, track), row.made, all...)
				}
			}
		})
	}
}

// TestReplayRefuses: a number of steps that may not be, whether it is over or not; nothing is done then.
func TestReplayRefuses(t *testing.T) { // P17.2
	for _, l := range []api.Log{wholeOf(9, 4), wholeOf(0, 4), logOf(4), logOf(4, typed(0, ""), image(0, 999, nil))} {
		for _, track := range []bool{false, true} {
			p := made(t, l, track)
			before := stands(p.Tower())
			why, over := p.Over()
			for _, n := range []int{-1, 65537, -65536, 1 << 32, 1<<32 + 1, math.MinInt, math.MaxInt} {
				if played, errno := p.Run(n); errno != api.ErrArg || !samePlayed(played, api.Played{}) {
					t.Errorf("Run(%d) is %v, %v", n, played, errno)
				}
			}
			if whyNow, overNow := p.Over(); whyNow != why || overNow != over {
				t.Errorf("Over is %d, %t, not %d, %t", whyNow, overNow, why, over)
			}
			before.stays(t, "refused", p.Tower())
		}
	}
}

func TestNoReplay(t *testing.T) { // P17.2
	for name, p := range noReplays() {
		for _, n := range []int{0, 1, -1, 65537, math.MinInt, math.MaxInt} {
			if played, errno := p.Run(n); errno != api.ErrNil || !samePlayed(played, api.Played{}) {
				t.Errorf("%s: Run(%d) is %v, %v", name, n, played, errno)
			}
		}
		if why, over := p.Over(); why != api.PlayOut || over {
			t.Errorf("%s: Over is %d, %t", name, why, over)
		}
		if p.Tower() != nil {
			t.Errorf("%s: it has a tower", name)
		}
	}
}

// TestLogsThatMayNotBe: there is no replay of one, whatever else would be refused.
func TestLogsThatMayNotBe(t *testing.T) { // P17.2
	record := func(change func(r *api.Record)) api.Log {
		r := typed(1, "a")
		change(&r)
		return logOf(4, image(0, 999, nil), r) // the first one would be refused by the tower
	}
	for name, l := range map[string]api.Log{
		"zero":                 {},
		"no form":              {Most: 4},
		"no bound":             {Form: form(1, 1)},
		"more frames":          {Form: form(33, 1), Most: 4},
		"fewer sectors":        {Form: form(1, -1), Most: 4},
		"a greater bound":      {Form: form(1, 1), Most: 65537},
		"an end, not whole":    {Form: form(1, 1), Most: 4, End: 1},
		"an end below 0":       wholeOf(-1, 4),
		"an end too great":     wholeOf(last+1, 4),
		"a record behind it":   wholeOf(1, 4, typed(2, "a")),
		"a record of no kind":  record(func(r *api.Record) { r.Kind = api.RecordNone }),
		"a record of the end":  record(func(r *api.Record) { r.Kind, r.Bytes = api.RecordEnd, nil }),
		"a record of the kind": record(func(r *api.Record) { r.Kind = 9 }),
		"a record's N":         record(func(r *api.Record) { r.N = 1 }),
		"a record's At":        record(func(r *api.Record) { r.At = -1 }),
		"a record's Bytes":     record(func(r *api.Record) { r.Bytes = make([]byte, 257) }),
		"a set of one byte":    record(func(r *api.Record) { r.Kind = api.RecordStrict }),
		"a source that is not": record(func(r *api.Record) { *r = source(1, 5, 1) }),
		"a sink that is not":   record(func(r *api.Record) { *r = sink(1, 0, 1) }),
		"records out of order": logOf(4, typed(2, "a"), typed(1, "b")),
	} {
		for _, track := range []bool{false, true} {
			if p, errno := New(l, track); p != nil || errno != api.ErrRecord {
				t.Errorf("%s: New is %v, %v", name, p, errno)
			}
		}
	}
}

// TestTowerOfAReplay: it has the log's form, with sets its bound too, and empty rules but for those that were recorded.
func TestTowerOfAReplay(t *testing.T) { // P17.2
	for _, f := range []api.Form{form(1, 1), form(32, 1), form(1, 32), form(5, 6)} {
		for _, most := range []int{1, 2, highest} {
			l := api.Log{Form: f, Most: most}
			if got := made(t, l, true).Tower().Setup(); got != (api.Setup{Form: f, Track: true, Most: most}) {
				t.Errorf("the setup is %v of %v, with sets", got, l)
			}
			if got := made(t, l, false).Tower().Setup(); got != (api.Setup{Form: f}) {
				t.Errorf("the setup is %v of %v, without sets", got, l)
			}
		}
	}
	rules := fullRules()
	for _, track := range []bool{false, true} {
		r := started(t, tracking(9, rules))
		if got := made(t, r.Log(false), track).Tower().Setup().Rules; got != rules {
			t.Errorf("the rules are %v, not %v", got, rules)
		}
	}
}

// TestEachRecordIsDone: at its time, those of At 0 at the making, and those behind a step together with it, not ahead of the next one alone.
func TestEachRecordIsDone(t *testing.T) { // P17.2
	for _, at := range []int64{0, 1, 300} {
		for _, track := range []bool{false, true} {
			l := wholeOf(at+1, 9, source(at, 1, 1), source(at, 2, 2), source(at, 3, 4), source(at, 4, 8), sink(at, 1, 0x10), sink(at, 2, 0x20), sink(at, 3, 0x40), sink(at, 4, 0x8000), strict(at, 0x4001),
				image(at, 100, []byte("image")), onDisk(at, 1, "sector"), typed(at, "typed"), packet(at, "packet"))
			p, wanted := made(t, l, track), started(t, api.Setup{Form: l.Form, Track: track, Most: map[bool]int{true: 9}[track]})
			if at > 0 {
				plays(t, p, int(at-1), api.Played{Steps: int(at - 1)})
				wanted.Run(int(at - 1))
				stands(wanted.Tower()).stays(t, "ahead of the records", p.Tower())
				plays(t, p, 1, api.Played{Steps: 1})
				wanted.Run(1)
			}
			for _, r := range l.Records {
				goes(t, tells(wanted, r))
			}
			stands(wanted.Tower()).stays(t, "behind the records", p.Tower())
			isOver(t, p, api.PlayOut)
		}
	}
}

// tells tells a machine what a record is of.
func tells(m machine, r api.Record) api.Errno {
	set := func() (set uint32) {
		for n, b := range r.Bytes {
			set += uint32(b) << (8 * n)
		}
		return set
	}
	switch r.Kind {
	case api.RecordImage:
		return m.Load(r.N, r.Bytes)
	case api.RecordDisk:
		return m.Write(r.N, r.Bytes)
	case api.RecordConsole:
		return m.Type(r.Bytes)
	case api.RecordNet:
		return m.Send(r.Bytes)
	case api.RecordSource:
		return m.Source(api.Source(r.N), set())
	case api.RecordSink:
		return m.Sink(api.Sink(r.N), set())
	}
	return m.Strict(set())
}

// TestHalted: it is over where a step is asked for that is not done, not ahead of that.
func TestHalted(t *testing.T) { // P17.2
	halt := code(t, "addi r1, r1, 7", "halt")
	for _, track := range []bool{false, true} {
		for _, l := range []api.Log{wholeOf(3, 4, image(0, 0, halt)), wholeOf(last, 4, image(0, 0, halt), typed(3, "a")), logOf(4, image(0, 0, halt), typed(3, "a"))} {
			turns(t, made(t, l, track), api.PlayOut, turn{1, 1, api.PlayOut}, turn{1, 1, api.PlayOut}, turn{0, 0, api.PlayOut}, turn{1, 0, api.PlayHalted})
			turns(t, made(t, l, track), api.PlayOut, turn{3, 2, api.PlayHalted})
			turns(t, made(t, l, track), api.PlayOut, turn{highest, 2, api.PlayHalted})
		}
	}
}

// TestStopped: just with sets.
func TestStopped(t *testing.T) { // P17.2
	program := code(t, "in r1, 0", "out r1, 1", "beq r1, r2, 1", "halt")
	for _, l := range []api.Log{
		wholeOf(9, 4, image(0, 0, program), source(0, 3, 1), strict(0, 3), typed(0, "a")),
		logOf(4, image(0, 0, program), source(0, 3, 1), typed(0, "a"), strict(2, 3), strict(9, 0)), // a record of a time that never comes
	} {
		turns(t, made(t, l, true), api.PlayOut, turn{2, 2, api.PlayOut}, turn{0, 0, api.PlayOut}, turn{7, 0, api.PlayStopped})
		turns(t, made(t, l, true), api.PlayOut, turn{9, 2, api.PlayStopped})
		turns(t, made(t, l, false), api.PlayOut, turn{9, 4, api.PlayHalted})
	}
}

// TestFull: by a step, or by a record; just with sets.
func TestFull(t *testing.T) { // P17.2
	program := code(t, "in r1, 0", "in r2, 0", "add r1, r2", "halt")
	two := []api.Record{image(0, 0, program), source(0, 3, 1), typed(0, "a"), source(0, 3, 2), typed(0, "b")}
	l := wholeOf(4, 3, two...)
	turns(t, made(t, l, true), api.PlayOut, turn{2, 2, api.PlayOut}, turn{7, 0, api.PlayFull})
	turns(t, made(t, l, true), api.PlayOut, turn{9, 2, api.PlayFull})
	turns(t, made(t, l, false), api.PlayOut, turn{9, 4, api.PlayEnd})
	l.Most = 4
	turns(t, made(t, l, true), api.PlayOut, turn{9, 4, api.PlayEnd})
	l.Most = 2
	turns(t, made(t, l, true), api.PlayFull) // what is typed last has no room
	turns(t, made(t, l, false), api.PlayOut, turn{9, 4, api.PlayEnd})
	for _, r := range []api.Record{image(3, 0, nil), onDisk(3, 1, "a"), typed(3, ""), packet(3, "abc")} {
		for _, behind := range []int64{3, 4} { // also where it would be over then
			l := wholeOf(behind, 2, source(0, 4, 1), packet(0, "a"), source(1, 1, 2), source(1, 2, 2), source(1, 3, 2), source(1, 4, 2), r)
			turns(t, made(t, l, true), api.PlayOut, turn{2, 2, api.PlayOut}, turn{1, 1, api.PlayFull})
			turns(t, made(t, l, true), api.PlayOut, turn{9, 3, api.PlayFull})
			turns(t, made(t, l, false), api.PlayOut, turn{9, int(behind), api.PlayEnd})
			l.Whole, l.End = false, 0
			turns(t, made(t, l, true), api.PlayOut, turn{9, 3, api.PlayFull})
			turns(t, made(t, l, false), api.PlayOut, turn{9, 3, api.PlayCut})
		}
	}
}

// refusedRecords are records, some of which a tower of two frames and two sectors refuses, whether it tracks or not, at a time.
func refusedRecords(at int64) map[string][]api.Record {
	packets := make([]api.Record, api.MaxWaits+1)
	for n := range packets {
		packets[n] = packet(at, "")
	}
	return map[string][]api.Record{
		"beyond memory":   {image(at, 128, nil)},
		"far beyond":      {image(at, 65535, []byte{1})},
		"more than fit":   {image(at, 127, []byte{1, 2})},
		"no such sector":  {onDisk(at, 2, "")},
		"the last sector": {onDisk(at, 255, "a")},
		"too many bytes":  {typed(at, strings.Repeat("a", 256)), typed(at, "a")},
		"many packets":    packets,
	}
}

// TestBad: a record that the tower refuses ends a replay ahead of anything else that would; those behind it are not done.
func TestBad(t *testing.T) { // P17.2
	for _, at := range []int64{0, 1, 3} {
		for name, bad := range refusedRecords(at) {
			all := append([]api.Record{strict(0, 4)}, bad...)
			ahead, behind := len(all)-1, append(all, strict(at, 8), typed(at, "b"))
			for _, l := range []api.Log{
				wholeOf(at+9, 4, all...), wholeOf(at, 4, all...), logOf(4, all...),
				wholeOf(at+9, 4, behind...), wholeOf(at, 4, behind...), logOf(4, behind...), logOf(4, append(behind, typed(at+9, "c"))...),
			} {
				for _, track := range []bool{false, true} {
					all := []turn{{9, int(at), api.PlayBad}}
					wanted := started(t, api.Setup{Form: l.Form, Track: track, Most: map[bool]int{true: 4}[track]})
					wanted.Run(int(at))
					for _, r := range l.Records[:ahead] {
						goes(t, tells(wanted, r))
					}
					p, made := made(t, l, track), api.PlayOut
					if at == 0 {
						all, made = nil, api.PlayBad
					}
					turns(t, p, made, all...)
					stands(wanted.Tower()).stays(t, name, p.Tower())
				}
			}
		}
	}
}

// TestTwoAtOneTime: a record that is refused, then the log's end, then a step that is not done; of two records the first one.
func TestTwoAtOneTime(t *testing.T) { // P17.2
	bad, full := image(1, 128, nil), typed(1, "b")
	stop := []api.Record{image(0, 0, code(t, "in r1, 0", "beq r1, r2, 1")), source(0, 3, 1), strict(0, 1), typed(0, "a"), source(0, 3, 2)} // of a bound of 2
	halt, room := []api.Record{image(0, 0, code(t, "halt"))}, []api.Record{image(0, 0, code(t, "in r1, 0", "add r1, r1")), source(0, 3, 1), typed(0, "a"), source(0, 3, 2)}
	with := func(all []api.Record, more ...api.Record) []api.Record {
		return append(append([]api.Record{}, all...), more...)
	}
	for name, row := range map[string]struct {
		l      api.Log
		wanted api.PlayWhy
	}{
		"refused, end, halted":            {wholeOf(1, 2, with(halt, bad)...), api.PlayBad},
		"refused, cut, halted":            {logOf(2, with(halt, bad)...), api.PlayBad},
		"refused, halted":                 {wholeOf(2, 2, with(halt, bad)...), api.PlayBad},
		"end, halted":                     {wholeOf(1, 2, halt...), api.PlayEnd},
		"cut, halted":                     {logOf(2, with(halt, strict(1, 1))...), api.PlayCut},
		"halted":                          {wholeOf(2, 2, halt...), api.PlayHalted},
		"refused, end, stopped":           {wholeOf(1, 2, with(stop, bad)...), api.PlayBad},
		"refused, stopped":                {wholeOf(2, 2, with(stop, bad)...), api.PlayBad},
		"end, stopped":                    {wholeOf(1, 2, stop...), api.PlayEnd},
		"cut, stopped":                    {logOf(2, with(stop, sink(1, 1, 1))...), api.PlayCut},
		"stopped":                         {wholeOf(2, 2, stop...), api.PlayStopped},
		"a record without room, stopped":  {wholeOf(2, 2, with(stop, full)...), api.PlayFull},
		"a record without room, end":      {wholeOf(1, 2, with(room, full)...), api.PlayFull},
		"a record without room, cut":      {logOf(2, with(room, full)...), api.PlayFull},
		"refused, without room":           {wholeOf(1, 2, with(room, bad, full)...), api.PlayBad},
		"without room, refused":           {wholeOf(1, 2, with(room, full, bad)...), api.PlayFull},
		"refused behind one that is done": {wholeOf(1, 2, with(room, strict(1, 8), bad, full)...), api.PlayBad},
	} {
		t.Run(name, func(t *testing.T) {
			turns(t, made(t, row.l, true), api.PlayOut, turn{9, 1, row.wanted})
			p := made(t, row.l, true)
			plays(t, p, 0, api.Played{})
			played, errno := p.Run(1) // a step that is not done is not asked for yet
			if row.wanted == api.PlayHalted || row.wanted == api.PlayStopped {
				isOver(t, p, api.PlayOut)
				played, errno = p.Run(1)
				played.Steps++
			}
			if errno != api.OK || !samePlayed(played, api.Played{Steps: 1, Why: row.wanted}) {
				t.Errorf("Run is %v, %v", played, errno)
			}
			isOver(t, p, row.wanted)
		})
	}
}

// TestAlerts: those of the steps of a run, in order, also of several that records lie between.
func TestAlerts(t *testing.T) { // P17.2
	r := started(t, tracking(9, api.Rules{Sources: [5]uint32{3: 1}, Sinks: [5]uint32{1: 7}}), "in r1, 0", "out r1, 1", "jal r2, -2")
	var alerts []api.Alert
	for n := range 9 {
		goes(t, r.Source(api.SourceConsole, uint32(n%4)))
		goes(t, r.Type([]byte{byte(n)}))
		ran, errno := r.Run(3)
		goes(t, errno)
		alerts = append(alerts, ran.Alerts...)
	}
	if len(alerts) != 6 || alerts[2] != (api.Alert{Place: api.Place{Kind: api.PlaceOut, N: 3}, Set: 3}) {
		t.Fatalf("the alerts of the recorder are %v", alerts)
	}
	l := r.Log(true)
	plays(t, made(t, l, true), 99, api.Played{Steps: 27, Why: api.PlayEnd, Alerts: alerts})
	plays(t, made(t, l, false), 99, api.Played{Steps: 27, Why: api.PlayEnd})
	for n := range 27 {
		p := made(t, l, true)
		first, errno := p.Run(n)
		goes(t, errno)
		behind := 0
		for _, alert := range alerts {
			if 3*alert.Place.N+1 < n { // the step that told the byte
				behind++
			}
		}
		if !samePlayed(first, api.Played{Steps: n, Alerts: alerts[:behind]}) {
			t.Errorf("Run(%d) is %v", n, first)
		}
		clear(first.Alerts[:cap(first.Alerts)])
		plays(t, p, 99, api.Played{Steps: 27 - n, Why: api.PlayEnd, Alerts: alerts[behind:]})
		plays(t, p, 99, api.Played{Why: api.PlayEnd})
	}
	l.Records = append(l.Records, image(27, 999, nil)) // beside a record that is refused, too
	plays(t, made(t, l, true), 99, api.Played{Steps: 27, Why: api.PlayBad, Alerts: alerts})
}

// TestLogIsNotKept: a log may be changed behind the call, and is not changed by it; nor does what a replay tells reach it.
func TestLogIsNotKept(t *testing.T) { // P17.2
	for _, track := range []bool{false, true} {
		l := wholeOf(6, 9, source(0, 1, 1), image(0, 0, code(t, "in r1, 0", "sb r1, r0, 100")), typed(1, "abc"), packet(2, "xyz"), onDisk(3, 1, "sector"), strict(4, 8), sink(5, 1, 2))
		spare := make([]api.Record, len(l.Records)+2)
		l.Records = append(spare[:0], l.Records...)
		spare[len(l.Records)] = typed(5, "spare")
		was := cloned(api.Log{Records: spare})
		p, wanted := made(t, l, track), made(t, cloned(l), track)
		played, _ := wanted.Run(6)
		for n := range spare {
			if got := spare[n]; got.At != was.Records[n].At || got.Kind != was.Records[n].Kind || string(got.Bytes) != string(was.Records[n].Bytes) {
				t.Errorf("the record %d was changed to %v", n, got)
			}
			clear(spare[n].Bytes)
		}
		clear(spare)
		for range 7 {
			before := stands(p.Tower())
			spoil(p.Tower())
			before.stays(t, "what is told was changed", p.Tower())
			p.Run(1)
		}
		isOver(t, p, played.Why)
		stands(wanted.Tower()).stays(t, "a log that was changed", p.Tower())
	}
}

// TestReplaysAreApart: of one log, each goes on by itself.
func TestReplaysAreApart(t *testing.T) { // P17.2
	l := wholeOf(9, 9, source(0, 3, 1), typed(3, "a"), image(5, 0, code(t, "halt")))
	p, q := made(t, l, true), made(t, l, true)
	before := stands(q.Tower())
	turns(t, p, api.PlayOut, turn{9, 6, api.PlayHalted})
	before.stays(t, "another replay", q.Tower())
	turns(t, q, api.PlayOut, turn{9, 6, api.PlayHalted})
}
