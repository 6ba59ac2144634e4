package log

import (
	"bytes"
	"slices"
	"testing"

	"pomander/api"
)

// chance tells numbers by a fixed rule, so that every run sees the same ones.
type chance func(below int) int

func steady(seed uint32) chance {
	return func(below int) int {
		seed = seed*1664525 + 1013904223
		return int(seed>>8) % below
	}
}

// either is one of some.
func either[T any](c chance, some ...T) T { return some[c(len(some))] }

// log is one that may be.
func (c chance) log() api.Log {
	l := api.Log{Form: api.Form{Frames: 1 + c(32), Sectors: 1 + c(32)}, Most: either(c, 1, 127, 128, 1+c(65536), 65536)}
	at := int64(0)
	for range c(9) {
		at += either(c, 0, 0, 1, int64(c(300)), 1<<c(50))
		k := kinds[c(len(kinds))]
		l.Records = append(l.Records, api.Record{At: at, Kind: k.kind, N: k.least + c(k.most-k.least+1), Bytes: row(k.fewest + c(min(k.longer-k.fewest, 140)))})
	}
	if c(2) == 0 {
		l.Whole, l.End = true, at+either(c, 0, 1, int64(c(300)), 1<<c(50))
	}
	return l
}

// changed is bytes that are others in a few places.
func (c chance) changed(b []byte) []byte {
	b = slices.Clone(b)
	for range 1 + c(3) {
		at := c(len(b) + 1)
		switch some := byte(either(c, 0, 1, 3, 8, 127, 128, 129, 255, c(256))); {
		case c(4) == 0:
			b = slices.Insert(b, at, some)
		case at == len(b):
		case c(4) == 0:
			b = slices.Delete(b, at, at+1)
		default:
			b[at] = some
		}
	}
	return b
}

func TestAnyLog(t *testing.T) { // P16.1, P16.2, P16.3, P16.4, P16.5
	for seed := range uint32(300) {
		c := steady(seed)
		l := c.log()
		kept := copied(l)
		goes(t, l)
		cuts(t, l)
		if other := c.log(); Same(l, other) != sameByHand(l, other) || !Same(l, kept) {
			t.Errorf("Same tells %t of %v and %v", Same(l, other), l, other)
		}
		if !sameByHand(l, kept) {
			t.Errorf("%v was changed to %v", kept, l)
		}
		if t.Failed() {
			t.Fatalf("at seed %d", seed)
		}
	}
}

// TestAnyBytes: bytes that are hardly a log's are told as by hand.
func TestAnyBytes(t *testing.T) { // P16.2, P16.4
	count := map[api.Errno]int{}
	for seed := range uint32(20000) {
		c := steady(seed)
		b := c.changed(bytesByHand(c.log()))
		kept := slices.Clone(b)
		wanted, read, refusal := decodedByHand(b)
		count[refusal]++
		if refusal != api.OK {
			isNone(t, refusal, b)
		} else {
			decodes(t, b, wanted, read)
			goes(t, wanted)
		}
		if !bytes.Equal(b, kept) {
			t.Errorf("%x was changed to %x", kept, b)
		}
		if t.Failed() {
			t.Fatalf("at seed %d", seed)
		}
	}
	for _, refusal := range []api.Errno{api.OK, api.ErrHead, api.ErrRecord} {
		if count[refusal] < 100 {
			t.Errorf("%v is told of %d alone", refusal, count[refusal])
		}
	}
}

// TestFewBytes: all that are two behind a head, and some that are three.
func TestFewBytes(t *testing.T) { // P16.2
	for first := range 256 {
		for second := range 256 {
			for _, b := range [][]byte{of(byte(first), byte(second)), of(3, byte(first), byte(second), 0), of(4, 8, byte(first), byte(second), 0)} {
				wanted, read, refusal := decodedByHand(b)
				if refusal != api.OK {
					isNone(t, refusal, b)
				} else {
					decodes(t, b, wanted, read)
				}
			}
		}
	}
}

// TestAnyLogThatMayNotBe: one wrong part makes a log one that may not be.
func TestAnyLogThatMayNotBe(t *testing.T) { // P16.1, P16.3
	for seed := range uint32(400) {
		c := steady(seed)
		l := c.log()
		if len(l.Records) == 0 {
			continue
		}
		r := &l.Records[c(len(l.Records))]
		switch c(8) {
		case 0:
			r.Kind = either(c, api.RecordNone, api.RecordEnd, 9, -1)
		case 1:
			r.N = either(c, -1, 65536, -1<<40)
		case 2:
			r.Bytes = row(2049 + c(9))
		case 3:
			r.At = either[int64](c, -1, last+1, -last)
		case 4:
			l.Form.Frames = either(c, 0, 33, -1)
		case 5:
			l.Form.Sectors = either(c, 0, 33, -1)
		case 6:
			l.Most = either(c, 0, 65537, -1)
		case 7:
			l.End = either[int64](c, -1, last+1)
		}
		refuses(t, l)
		if t.Failed() {
			t.Fatalf("at seed %d", seed)
		}
	}
}
