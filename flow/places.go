package flow

import (
	"iter"
	"maps"
	"math"
	"slices"

	"pomander/api"
	"pomander/shadow"
)

const (
	// kinds is how many Kinds there are, PlaceNone among them.
	kinds = api.PlaceAsk + 1
	// asks is how many answer commands: the disk and the net.
	asks = 2
	// lastCounted is the last number of a byte that came or went.
	lastCounted = math.MaxInt32
)

// sets is where the sets of one Kind's places stand, by their N. All but has is asked of places alone that there are.
type sets interface {
	has(n int) bool
	get(n int) uint32
	put(n, many int, set uint32)
	all() iter.Seq2[int, uint32]
}

// places is where the sets of all places stand.
type places struct {
	memory, disk *shadow.Shadow
	// small has the sets of the places of Kinds that have few; no Kind of them has more than there are registers.
	small [kinds][api.Registers]uint32
	// counted has the sets of bytes that came or went, of each Kind of them.
	counted [kinds]counted
}

// noneCounted is a map of each Kind whose places are counted on and on.
func noneCounted() [kinds]counted {
	return [kinds]counted{
		api.PlaceIn:     {},
		api.PlaceOut:    {},
		api.PlacePacket: {},
		api.PlaceSent:   {},
	}
}

// standing tells, by Kind, where the sets of its places stand; PlaceNone has none.
func standing() [kinds]func(*places) sets {
	return [kinds]func(*places) sets{
		api.PlaceReg:    func(p *places) sets { return few(p.small[api.PlaceReg][:]) },
		api.PlacePc:     func(p *places) sets { return few(p.small[api.PlacePc][:1]) },
		api.PlaceEpc:    func(p *places) sets { return few(p.small[api.PlaceEpc][:1]) },
		api.PlaceCause:  func(p *places) sets { return few(p.small[api.PlaceCause][:1]) },
		api.PlaceVec:    func(p *places) sets { return few(p.small[api.PlaceVec][:1]) },
		api.PlaceTable:  func(p *places) sets { return few(p.small[api.PlaceTable][:1]) },
		api.PlaceMode:   func(p *places) sets { return few(p.small[api.PlaceMode][:1]) },
		api.PlaceMask:   func(p *places) sets { return few(p.small[api.PlaceMask][:1]) },
		api.PlaceAlarm:  func(p *places) sets { return few(p.small[api.PlaceAlarm][:1]) },
		api.PlaceMem:    func(p *places) sets { return shadowed{p.memory} },
		api.PlaceTlb:    func(p *places) sets { return few(p.small[api.PlaceTlb][:api.Entries]) },
		api.PlaceSector: func(p *places) sets { return shadowed{p.disk} },
		api.PlaceIn:     func(p *places) sets { return p.counted[api.PlaceIn] },
		api.PlaceOut:    func(p *places) sets { return p.counted[api.PlaceOut] },
		api.PlacePacket: func(p *places) sets { return p.counted[api.PlacePacket] },
		api.PlaceSent:   func(p *places) sets { return p.counted[api.PlaceSent] },
		api.PlaceAsk:    func(p *places) sets { return few(p.small[api.PlaceAsk][:asks]) },
	}
}

// of tells where the sets of a Kind's places stand.
func (p *places) of(kind api.PlaceKind) sets { return standing()[kind](p) }

// has tells whether a place may be.
func (p *places) has(place api.Place) bool {
	return place.Kind > api.PlaceNone && place.Kind < kinds && p.of(place.Kind).has(place.N)
}

// hasAll tells whether each of them may be.
func (p *places) hasAll(l []api.Place) bool {
	return !slices.ContainsFunc(l, func(place api.Place) bool { return !p.has(place) })
}

// get tells the set of a place that may be.
func (p *places) get(place api.Place) uint32 { return p.of(place.Kind).get(place.N) }

// put gives so many places from one on a set.
func (p *places) put(place api.Place, many int, set uint32) {
	p.of(place.Kind).put(place.N, many, set)
}

// together tells what they have together.
func (p *places) together(l []api.Place) uint32 {
	set := uint32(0)
	for _, place := range l {
		set |= p.get(place)
	}
	return set
}

// each goes over the places whose sets are not empty, by rising Kind, then N.
func (p *places) each() iter.Seq2[api.Place, uint32] {
	return func(yield func(api.Place, uint32) bool) {
		for kind := api.PlaceNone + 1; kind < kinds; kind++ {
			for n, set := range p.of(kind).all() {
				if !yield(api.Place{Kind: kind, N: n}, set) {
					return
				}
			}
		}
	}
}

// anew makes others with the same sets.
func (p *places) anew() *places {
	other := *p
	other.memory, other.disk = p.memory.Copy(), p.disk.Copy()
	for kind, those := range p.counted {
		other.counted[kind] = maps.Clone(those)
	}
	return &other
}

// alike tells whether both are the same places, with the same sets.
func (p *places) alike(other *places) bool {
	for kind, those := range p.counted {
		if !maps.Equal(those, other.counted[kind]) {
			return false
		}
	}
	return p.small == other.small && shadow.Same(p.memory, other.memory) && shadow.Same(p.disk, other.disk)
}

// few is the sets of all places of a Kind.
type few []uint32

func (s few) has(n int) bool   { return n >= 0 && n < len(s) }
func (s few) get(n int) uint32 { return s[n] }

func (s few) put(n, many int, set uint32) {
	for at := range many {
		s[n+at] = set
	}
}

func (s few) all() iter.Seq2[int, uint32] {
	return func(yield func(int, uint32) bool) {
		for n, set := range s {
			if set != 0 && !yield(n, set) {
				return
			}
		}
	}
}

// counted is the sets of bytes that came or went, by their numbers; empty ones are left out, as most are of bytes that never were.
type counted map[int]uint32

func (s counted) has(n int) bool   { return n >= 0 && n <= lastCounted }
func (s counted) get(n int) uint32 { return s[n] }

func (s counted) put(n, many int, set uint32) {
	for at := range many {
		if set == 0 {
			delete(s, n+at)
		} else {
			s[n+at] = set
		}
	}
}

func (s counted) all() iter.Seq2[int, uint32] {
	return func(yield func(int, uint32) bool) {
		for _, n := range slices.Sorted(maps.Keys(s)) {
			if !yield(n, s[n]) {
				return
			}
		}
	}
}

// shadowed is the sets of bytes of memory or of the disk.
type shadowed struct{ *shadow.Shadow }

func (s shadowed) has(n int) bool { return n >= 0 && n < s.Size() }

func (s shadowed) get(n int) uint32 {
	set, _ := s.Get(n)
	return set
}

func (s shadowed) put(n, many int, set uint32) { s.Fill(n, many, set) }

func (s shadowed) all() iter.Seq2[int, uint32] { return s.All() }
