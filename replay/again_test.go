package replay

import (
	"testing"

	"pomander/api"
	"pomander/board"
	"pomander/log"
	"pomander/tower"
)

// life is what becomes of a recorder: how it stood at its making, behind each step and all that came then, and behind each record.
type life struct {
	*Recorder
	rules int // how many records are of its setup
	made  standing
	times []standing
	told  []standing
}

func lifeOf(t *testing.T, s api.Setup, lines ...string) *life {
	t.Helper()
	r := started(t, s)
	f := &life{Recorder: r, rules: len(r.Log(false).Records), made: stands(r.Tower())}
	f.times = []standing{f.made}
	for range f.rules {
		f.told = append(f.told, f.made)
	}
	if len(lines) > 0 {
		goes(t, f.tell(image(0, 0, code(t, lines...))))
	}
	return f
}

// tell tells it what a record is of.
func (f *life) tell(r api.Record) api.Errno {
	errno := tells(f.Recorder, r)
	if errno == api.OK {
		now := stands(f.Tower())
		f.told, f.times[len(f.times)-1] = append(f.told, now), now
	}
	return errno
}

// goOn does steps, and those of a copy one by one; it tells the run.
func (f *life) goOn(t *testing.T, n int) api.Ran {
	t.Helper()
	x := f.Tower()
	ran, errno := f.Run(n)
	goes(t, errno)
	for range ran.Steps {
		x.Run(1)
		f.times = append(f.times, stands(x))
	}
	f.times[len(f.times)-1].stays(t, "step by step", f.Tower())
	return ran
}

// stood fails where a replay of a log that was read from its own does not stand, behind so many steps, as it did.
func (f *life) stood(t *testing.T, l api.Log, p *Replay, steps int) {
	t.Helper()
	x := p.Tower()
	got, wanted, read := stands(x), f.times[steps], len(l.Records)
	if _, over := p.Over(); over && !l.Whole {
		wanted = append([]standing{f.made}, f.told...)[read] // what came then was not all read
	}
	if read < f.rules {
		wanted.rules = got.rules
	}
	if !x.Setup().Track {
		wanted.sets = nil
	}
	if what := wanted.differs(got); what != "" {
		t.Fatalf("behind %d steps of %d records another one is: %s", steps, read, what)
	}
}

// again fails where a log that was read from its own is not done again: each step up to its end, and no other one.
func (f *life) again(t *testing.T, l api.Log, track bool) {
	t.Helper()
	end, why := 0, api.PlayCut
	if len(l.Records) > 0 {
		end = int(l.Records[len(l.Records)-1].At)
	}
	if l.Whole {
		end, why = len(f.times)-1, api.PlayEnd
	}
	p, q := made(t, l, track), made(t, l, track)
	for steps := range end {
		isOver(t, p, api.PlayOut)
		f.stood(t, l, p, steps)
		if played, errno := p.Run(1); played.Steps != 1 || errno != api.OK {
			t.Fatalf("the step %d of %d records is %v, %v", steps, len(l.Records), played, errno)
		}
	}
	isOver(t, p, why)
	f.stood(t, l, p, end)
	if played, errno := q.Run(highest); played.Steps != end || played.Why != why || errno != api.OK {
		t.Fatalf("all steps of %d records are %v, %v, not %d", len(l.Records), played, errno, end)
	}
	stands(p.Tower()).stays(t, "in one run", q.Tower())
}

// cutOff fails where a beginning of its log's bytes, from any place behind the head on, is not done again, with sets, if it has some, and without. Logs that are the same as the one ahead are held against that alone.
func (f *life) cutOff(t *testing.T) {
	t.Helper()
	whole := f.Log(true)
	b, errno := log.Encode(whole)
	goes(t, errno)
	head, _ := log.Encode(api.Log{Form: whole.Form, Most: whole.Most})
	var before api.Log
	for at := len(head); at <= len(b); at++ {
		l, read, errno := log.Decode(b[:at])
		goes(t, errno)
		if l.Whole != (at == len(b)) || read > at {
			t.Fatalf("of %d bytes of %d there is %v", at, len(b), l)
		}
		if at > len(head) && log.Same(l, before) {
			continue
		}
		before = l
		f.again(t, l, f.Tower().Setup().Track)
		f.again(t, l, false)
	}
	isLog(t, before, whole)
	short, errno := log.Encode(f.Log(false)) // one that is not whole is a beginning of the whole one
	if l, _, _ := log.Decode(short); errno != api.OK || string(b[:len(short)]) != string(short) || !log.Same(l, f.Log(false)) {
		t.Errorf("the log that is not whole is %v, %v", l, errno)
	}
}

// TestAgain: lives of any kind, also such as go on behind a step that was not done.
func TestAgain(t *testing.T) { // P17.3, P17.4 (P0.3)
	seen := tally{}
	for seed := range uint32(80) {
		c := steady(seed)
		s := c.setup()
		if s.Track {
			s.Most = of(c, 3, 4, 5, 64)
		}
		f := lifeOf(t, s)
		form := f.Tower().Setup().Form
		for _, r := range c.start(t, form) {
			f.tell(r)
		}
		var ran api.Ran
		for range 40 {
			if c(2) == 0 {
				f.tell(c.record(0, form))
				continue
			}
			before := ran.Why
			if before > api.RanHalted && c(2) == 0 { // so that what was not done is, or something else there
				f.tell(strict(0, 0))
				f.tell(image(0, min(int(f.Tower().Board().State().Pc), 64*form.Frames-4), make([]byte, 4*c(2))))
			}
			if ran = f.goOn(t, of(c, 0, 1, c(9), c(30))); ran.Steps > 0 && before > api.RanHalted {
				seen["went on"]++
			}
			seen[[]string{"out", "halted", "stopped", "full"}[ran.Why]]++
		}
		if f.cutOff(t); t.Failed() {
			t.Fatalf("at seed %d", seed)
		}
	}
	seen.atLeast(t, 5, "out", "halted", "stopped", "full", "went on")
}

// TestAgainBehindStopAndFull: a recorder goes on where less is strict, or other bytes stand where the step was full; a replay has not tried those steps.
func TestAgainBehindStopAndFull(t *testing.T) { // P17.3, P17.4
	f := lifeOf(t, tracking(3, api.Rules{Sources: [5]uint32{3: 1}, Strict: 1}), "in r1, 0", "bne r1, r0, 1", "in r2, 0", "or r1, r2", "jal r3, -4")
	ends := func(n, steps int, why api.RanWhy) {
		t.Helper()
		if ran := f.goOn(t, n); ran.Steps != steps || ran.Why != why {
			t.Fatalf("a run is %v, not %d steps, ended by %d", ran, steps, why)
		}
	}
	goes(t, f.tell(typed(0, "abc")))
	goes(t, f.tell(source(0, 3, 2)))
	goes(t, f.tell(typed(0, "d")))
	ends(9, 1, api.RanStopped)
	f.cutOff(t)
	goes(t, f.tell(strict(0, 0)))
	goes(t, f.tell(packet(0, "nothing of it is asked for")))
	ends(2, 2, api.RanOut)
	goes(t, f.tell(image(0, 100, []byte("between"))))
	ends(4, 4, api.RanOut)
	ends(9, 1, api.RanFull) // r1 1, r2 2
	f.cutOff(t)
	if errno := f.tell(source(0, 3, 4)); errno != api.OK || f.tell(typed(0, "no room")) != api.ErrFull {
		t.Fatalf("what has no room is told, %v", errno)
	}
	ends(9, 0, api.RanFull)
	goes(t, f.tell(image(0, 12, code(t, "halt"))))
	f.cutOff(t)
	ends(9, 1, api.RanHalted)
	goes(t, f.tell(strict(0, 8)))
	f.cutOff(t)
}

// TestAgainOfNone: of no records, of no steps, of records of one time alone.
func TestAgainOfNone(t *testing.T) { // P17.3, P17.4
	for _, s := range []api.Setup{tracking(9, api.Rules{}), {Form: form(1, 1)}, tracking(1, fullRules()), {Form: form(32, 32), Rules: fullRules()}} {
		f := lifeOf(t, s)
		f.cutOff(t)
		f.tell(strict(0, 0))
		f.tell(onDisk(0, 0, "sector"))
		f.cutOff(t)
		f.goOn(t, 2)
		f.cutOff(t)
		f.tell(source(0, 3, 0))
		f.tell(typed(0, "a"))
		f.cutOff(t)
	}
}

// TestWithSetsAfterwards: what was recorded without sets has, done again with them, those of a run with them.
func TestWithSetsAfterwards(t *testing.T) { // P17.3
	seen := tally{}
	for seed := range uint32(150) {
		c := steady(seed)
		s := c.setup()
		s.Track, s.Most, s.Rules.Strict = false, 0, 0
		r := started(t, s)
		s.Track, s.Most = true, highest
		x, _ := tower.New(s)
		for _, record := range c.start(t, s.Form) {
			if record.Kind != api.RecordStrict {
				goes(t, tells(r, record))
				goes(t, tells(x, record))
			}
		}
		var alerts []api.Alert
		for range 20 {
			record, n := c.record(0, s.Form), c(20)
			if record.Kind != api.RecordStrict && tells(r, record) != tells(x, record) {
				t.Fatalf("seed %d: one that tracks is told more, or less", seed)
			}
			r.Run(n)
			ran, _ := x.Run(n)
			alerts = append(alerts, ran.Alerts...)
		}
		l := r.Log(true)
		p := made(t, l, true)
		plays(t, p, highest, api.Played{Steps: int(l.End), Why: api.PlayEnd, Alerts: alerts})
		stands(x).stays(t, "a tower that tracks", p.Tower())
		if t.Failed() {
			t.Fatalf("at seed %d", seed)
		}
		if len(alerts) > 0 {
			seen["alerts"]++
		}
	}
	seen.atLeast(t, 5, "alerts")
}

// TestAgainOfManySteps: a log is as short as what came, however many steps there were.
func TestAgainOfManySteps(t *testing.T) { // P17.3, P17.4 (P0.3, P0.5)
	for _, s := range []api.Setup{tracking(9, api.Rules{Sources: [5]uint32{3: 1}}), {Form: form(2, 2)}} {
		r := started(t, s, "in r1, 0", "add r2, r1", "sb r2, r0, 100", "jal r3, -3")
		goes(t, r.Type([]byte("a")))
		for range 2 {
			r.Run(highest)
			r.Run(1)
			goes(t, r.Type([]byte("b")))
		}
		b, errno := log.Encode(r.Log(true))
		goes(t, errno)
		if most, _ := log.Bound(r.Log(true)); len(b) > most || len(b) > 99 {
			t.Errorf("a log of %d bytes", len(b))
		}
		l, _, _ := log.Decode(b)
		for _, track := range []bool{s.Track, false} {
			p := made(t, l, track)
			for _, n := range []int{highest, 1, highest} {
				plays(t, p, n, api.Played{Steps: n})
			}
			plays(t, p, highest, api.Played{Steps: 1, Why: api.PlayEnd})
			if !board.Same(p.Tower().Board(), r.Tower().Board()) {
				t.Error("the boards are not the same")
			}
		}
	}
}
