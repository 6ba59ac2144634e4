package replay

import (
	"bytes"
	"strconv"
	"testing"

	"pomander/api"
	"pomander/log"
	"pomander/tower"
)

// byHand is a replay by the chapter's sentences one behind the other, a step at a time.
type byHand struct {
	log   api.Log
	tower *tower.Tower
	next  int // the record
	steps int64
	why   api.PlayWhy
}

func handOf(l api.Log, track bool) *byHand {
	s := api.Setup{Form: l.Form, Track: track}
	if track {
		s.Most = l.Most
	}
	x, _ := tower.New(s)
	h := &byHand{log: l, tower: x}
	h.why = h.records()
	return h
}

// records does those of the time: why it is over then, or PlayOut.
func (h *byHand) records() api.PlayWhy {
	for ; h.next < len(h.log.Records) && h.log.Records[h.next].At == h.steps; h.next++ {
		errno := tells(h.tower, h.log.Records[h.next])
		if errno == api.ErrFull {
			return api.PlayFull
		}
		if errno != api.OK {
			return api.PlayBad
		}
	}
	if h.log.Whole && h.steps == h.log.End {
		return api.PlayEnd
	}
	if !h.log.Whole && h.next == len(h.log.Records) {
		return api.PlayCut
	}
	return api.PlayOut
}

func (h *byHand) run(n int) (played api.Played) {
	for range n {
		if h.why != api.PlayOut {
			break
		}
		ran, _ := h.tower.Run(1)
		if ran.Steps == 0 {
			h.why = map[api.RanWhy]api.PlayWhy{api.RanHalted: api.PlayHalted, api.RanStopped: api.PlayStopped, api.RanFull: api.PlayFull}[ran.Why]
			break
		}
		h.steps++
		played.Steps++
		played.Alerts = append(played.Alerts, ran.Alerts...)
		h.why = h.records()
	}
	played.Why = h.why
	return played
}

// log is one that may be, also one that no recorder would tell.
func (c chance) log(t *testing.T) api.Log {
	s := c.setup()
	l := api.Log{Form: s.Form, Most: max(s.Most, 4), Records: c.start(t, s.Form)}
	at := int64(0)
	for range c(25) {
		at += int64(of(c, 0, 0, 1, c(3), c(9), c(40)))
		l.Records = append(l.Records, c.record(at, l.Form))
	}
	if c(3) > 0 {
		l.Whole, l.End = true, at+int64(of(c, 0, 1, c(90)))
	}
	return l
}

// TestByHand: replays do what the ones by hand do, run by run.
func TestByHand(t *testing.T) { // P17.2
	seen := tally{}
	for seed := range uint32(1500) {
		c := steady(seed)
		l, track := c.log(t), c(4) > 0
		p, h := made(t, l, track), handOf(l, track)
		if h.why != api.PlayOut {
			seen["over at the making"]++
		}
		for range 12 {
			isOver(t, p, h.why)
			stands(h.tower).stays(t, "by hand", p.Tower())
			n := of(c, 0, 1, 1, c(4), c(30), c(30), 999)
			wanted := h.run(n)
			if plays(t, p, n, wanted); len(wanted.Alerts) > 0 {
				seen["alerts"]++
			}
			if t.Failed() {
				t.Fatalf("at seed %d, of %v", seed, l)
			}
		}
		seen["why "+strconv.Itoa(int(h.why))]++
		if h.why == api.PlayFull && h.next < len(l.Records) && l.Records[h.next].At == h.steps {
			seen["full by a record"]++
		}
	}
	seen.atLeast(t, 20, "why 1", "why 2", "why 3", "why 4", "why 5", "why 6", "full by a record", "over at the making", "alerts")
}

// TestRecorderByHand: a recorder does what a tower does, call by call, and its log has all that this did not refuse.
func TestRecorderByHand(t *testing.T) { // P17.1
	seen := tally{}
	for seed := range uint32(400) {
		c := steady(seed)
		s := c.setup()
		r := started(t, s)
		x, _ := tower.New(s)
		wanted := r.Log(false).Records // of its rules
		todo := c.start(t, s.Form)
		for range 40 {
			todo = append(todo, of(c, c.record(0, s.Form), api.Record{N: of(c, 0, 1, c(20), -1)}))
		}
		for n, act := range todo {
			if act.Kind == api.RecordNone {
				ran, errno := r.Run(act.N)
				if other, errnoOther := x.Run(act.N); !sameRan(ran, other) || errno != errnoOther {
					t.Fatalf("seed %d, act %d: a run is %v, %v, of the tower %v, %v", seed, n, ran, errno, other, errnoOther)
				}
				seen["ran "+strconv.Itoa(int(ran.Why))]++
			} else {
				given := bytes.Clone(act.Bytes)
				errno := tells(r, act)
				if other := tells(x, act); errno != other || !bytes.Equal(given, act.Bytes) {
					t.Fatalf("seed %d, act %d, %v: %v, of the tower %v", seed, n, act, errno, other)
				}
				if errno == api.OK {
					act.At = x.Board().Now()
					wanted = append(wanted, act)
				}
				seen["told "+strconv.Itoa(int(errno))]++
			}
			stands(x).stays(t, "a tower by itself", r.Tower())
		}
		recorded(t, r, wanted...)
		if _, errno := log.Encode(r.Log(seed%2 == 0)); errno != api.OK || t.Failed() {
			t.Fatalf("seed %d: Encode of its log is %v", seed, errno)
		}
	}
	seen.atLeast(t, 20, "ran 0", "ran 1", "ran 2", "ran 3", "told 0", "told 3", "told 4", "told 120")
}
