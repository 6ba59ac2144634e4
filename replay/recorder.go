// Package replay is layer 17: see shared/doc/17-replay.md.
package replay

import (
	"slices"

	"pomander/api"
	"pomander/tower"
)

// mostSets is the bound in the log of a tower that keeps no sets: replayed with them, it has room for all that there are.
const mostSets = 1 << api.MaxLabels

// kept is what a recorder keeps: its tower, and what that was told.
type kept struct {
	tower   *tower.Tower
	records []api.Record
}

// note keeps a record of what came ahead of the next step.
func (k *kept) note(kind api.RecordKind, n int, b []byte) {
	k.records = append(k.records, api.Record{At: k.now(), Kind: kind, N: n, Bytes: slices.Clone(b)})
}

// noteRule keeps a record of a rule that the tower was made with, if there is one.
func (k *kept) noteRule(kind api.RecordKind, n int, set uint32) {
	if set != 0 {
		k.note(kind, n, bytesOf(set))
	}
}

// now tells how many steps the tower's board has done.
func (k *kept) now() int64 { return k.tower.Board().Now() }

// Recorder is a tower, and what it was told. Its tower is there, or, of one that Start did not make, it is not.
type Recorder struct{ kept }

// Start makes a recorder.
func Start(s api.Setup) (*Recorder, api.Errno) {
	t, refusal := tower.New(s)
	if refusal != api.OK {
		return nil, refusal
	}
	r := &Recorder{kept{tower: t}}
	for n, set := range s.Rules.Sources {
		r.noteRule(api.RecordSource, n, set)
	}
	for n, set := range s.Rules.Sinks {
		r.noteRule(api.RecordSink, n, set)
	}
	r.noteRule(api.RecordStrict, 0, s.Rules.Strict)
	return r, api.OK
}

// Load puts bytes into memory.
func (r *Recorder) Load(at int, b []byte) api.Errno {
	return tell(r, api.RecordImage, at, b, func(t *tower.Tower) api.Errno { return t.Load(at, b) })
}

// Write puts bytes onto the disk.
func (r *Recorder) Write(sector int, b []byte) api.Errno {
	return tell(r, api.RecordDisk, sector, b, func(t *tower.Tower) api.Errno { return t.Write(sector, b) })
}

// Type types bytes.
func (r *Recorder) Type(b []byte) api.Errno {
	return tell(r, api.RecordConsole, 0, b, func(t *tower.Tower) api.Errno { return t.Type(b) })
}

// Send sends a packet to it.
func (r *Recorder) Send(p []byte) api.Errno {
	return tell(r, api.RecordNet, 0, p, func(t *tower.Tower) api.Errno { return t.Send(p) })
}

// Source gives a source's set.
func (r *Recorder) Source(s api.Source, set uint32) api.Errno {
	return tell(r, api.RecordSource, s, bytesOf(set), func(t *tower.Tower) api.Errno { return t.Source(s, set) })
}

// Sink gives a sink's set.
func (r *Recorder) Sink(s api.Sink, set uint32) api.Errno {
	return tell(r, api.RecordSink, s, bytesOf(set), func(t *tower.Tower) api.Errno { return t.Sink(s, set) })
}

// Strict gives the strict set.
func (r *Recorder) Strict(set uint32) api.Errno {
	return tell(r, api.RecordStrict, 0, bytesOf(set), func(t *tower.Tower) api.Errno { return t.Strict(set) })
}

// Run does steps.
func (r *Recorder) Run(n int) (api.Ran, api.Errno) {
	if r.none() {
		return api.Ran{}, api.ErrNil
	}
	return r.tower.Run(n)
}

// Log tells what was recorded.
func (r *Recorder) Log(whole bool) api.Log {
	if r.none() {
		return api.Log{}
	}
	s := r.tower.Setup()
	l := api.Log{Form: s.Form, Most: s.Most, Records: copied(r.records), Whole: whole}
	if !s.Track {
		l.Most = mostSets
	}
	if whole {
		l.End = r.now()
	}
	return l
}

// Tower tells the tower as it stands.
func (r *Recorder) Tower() *tower.Tower {
	if r.none() {
		return nil
	}
	return r.tower.Copy()
}

// none tells whether there is no recorder; one that Start did not make is as none.
func (r *Recorder) none() bool { return r == nil || r.tower == nil }

// tell tells a recorder's tower something by a call, and records it unless it is refused. What its N is of is the call's matter.
func tell[N ~int](r *Recorder, kind api.RecordKind, n N, b []byte, call func(*tower.Tower) api.Errno) api.Errno {
	if r.none() {
		return api.ErrNil
	}
	refusal := call(r.tower)
	if refusal == api.OK {
		r.note(kind, int(n), b)
	}
	return refusal
}

// bytesOf tells a set as a record has it.
func bytesOf(set uint32) []byte { return []byte{byte(set), byte(set >> 8)} }

// setOf tells the set that a record's bytes are.
func setOf(b []byte) uint32 { return uint32(b[0]) | uint32(b[1])<<8 }

// copied are the same records, in memory of their own.
func copied(l []api.Record) []api.Record {
	l = slices.Clone(l)
	for n, r := range l {
		l[n].Bytes = slices.Clone(r.Bytes)
	}
	return l
}
