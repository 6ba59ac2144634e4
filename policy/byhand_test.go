package policy

import (
	"testing"

	"pomander/api"
	"pomander/flow"
)

// chance tells numbers by a fixed rule, so that every run sees the same ones.
type chance func(below int) int

func steady(seed uint32) chance {
	return func(below int) int {
		seed = seed*1664525 + 1013904223
		return int(seed>>8) % below
	}
}

// set is one of few labels, often none.
func (c chance) set() uint32 { return uint32(1<<c(6)|1<<c(6)) * uint32(c(2)) }

func (c chance) place() api.Place {
	l := ends()
	return l[c(len(l))]
}

func (c chance) rules() api.Rules {
	r := api.Rules{Strict: c.set()}
	for kind := 1; kind <= 4; kind++ {
		r.Sources[kind], r.Sinks[kind] = c.set(), c.set()
	}
	return r
}

func (c chance) touches() []api.Touch {
	l := make([]api.Touch, c(6))
	for n := range l {
		switch c(4) {
		case 0:
		case 1:
			l[n].To = c.place()
		default: // where alerts are
			l[n].To = []api.Place{out(c(3)), sent(c(3)), sector(c(128)), pc}[c(4)]
		}
		for range c(4) {
			l[n].From = append(l[n].From, c.place())
		}
	}
	return l
}

// sets are those of all places, some of them empty.
func (c chance) sets(t *testing.T) (*flow.Flow, map[api.Place]uint32) {
	t.Helper()
	f, sets := flowOf(t, 64, nil), map[api.Place]uint32{}
	for _, p := range ends() {
		sets[p] = c.set()
		if errno := f.Mark(p, 1, sets[p]); errno != api.OK {
			t.Fatalf("Mark is %v", errno)
		}
	}
	return f, sets
}

// stopsByHand tells by the chapter's words whether touches stop.
func stopsByHand(r api.Rules, sets map[api.Place]uint32, l []api.Touch) bool {
	for _, touch := range l {
		for _, from := range touch.From {
			if touch.To.Kind == api.PlaceNone && sets[from]&r.Strict != 0 {
				return true
			}
		}
	}
	return false
}

// alertsByHand tells by the chapter's words what touches alert.
func alertsByHand(r api.Rules, sets map[api.Place]uint32, l []api.Touch) []api.Alert {
	var alerts []api.Alert
	for _, touch := range l {
		caught := uint32(0)
		for _, from := range touch.From {
			switch touch.To.Kind {
			case api.PlaceOut:
				caught |= sets[from] & r.Sinks[1]
			case api.PlaceSent:
				caught |= sets[from] & r.Sinks[2]
			case api.PlaceSector:
				caught |= sets[from] & r.Sinks[3]
			case api.PlacePc:
				caught |= sets[from] & r.Sinks[4]
			}
		}
		if caught != 0 {
			alerts = append(alerts, alert(touch.To, caught))
		}
	}
	return alerts
}

func TestByHand(t *testing.T) { // P13.1, P13.2, P13.3
	for seed := range uint32(60) {
		c := steady(seed)
		rules := c.rules()
		p := madeOf(t, rules)
		for range 40 {
			switch kind := 1 + c(4); c(4) {
			case 0:
				rules.Sources[kind] = c.set()
				p.Source(api.Source(kind), rules.Sources[kind])
			case 1:
				rules.Sinks[kind] = c.set()
				p.Sink(api.Sink(kind), rules.Sinks[kind])
			case 2:
				rules.Strict = c.set()
				p.Strict(rules.Strict)
			case 3:
				p = p.Copy() // nothing is to be seen of it
			}
			f, sets := c.sets(t)
			l := c.touches()
			has(t, p, rules)
			tells(t, p, f, stopsByHand(rules, sets, l), alertsByHand(rules, sets, l), l...)
			if t.Failed() {
				t.Fatalf("at seed %d", seed)
			}
		}
	}
}

// TestMoreStrictStopsNoLess: whatever stops with some labels stops with more; without any nothing does.
func TestMoreStrictStopsNoLess(t *testing.T) { // P13.3
	stopped := 0
	for seed := range uint32(40) {
		c := steady(seed)
		f, _ := c.sets(t)
		for range 20 {
			p, l, before := madeOf(t, c.rules()), c.touches(), false
			p.Strict(0)
			if stops, errno := p.Stops(f, l...); stops || errno != api.OK {
				t.Errorf("seed %d: with no labels Stops(%v) is %t, %v", seed, l, stops, errno)
			}
			for strict, first := uint32(0), c(api.MaxLabels); strict != highestSet; {
				strict |= 1 << (first % api.MaxLabels)
				first += 3 // all labels, in an order that is not theirs
				p.Strict(strict)
				stops, errno := p.Stops(f, l...)
				if before && !stops || errno != api.OK {
					t.Errorf("seed %d: with more labels, %d, Stops(%v) is %t, %v", seed, strict, l, stops, errno)
				}
				before = stops
			}
			if before {
				stopped++
			}
		}
	}
	if stopped < 100 {
		t.Errorf("just %d of all stop: too few to tell", stopped)
	}
}
