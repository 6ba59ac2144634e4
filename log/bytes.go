package log

import (
	"iter"
	"math"

	"pomander/api"
)

// mark is what a log's bytes begin with.
const mark = "PMDR"

// How a number stands in bytes: so many bits in each, and one more where others follow.
const (
	bits = 7
	more = 1 << bits
)

// list is bytes, one behind the other.
type list []byte

func (l *list) put(b ...byte) { *l = append(*l, b...) }

// number puts a number that is not below 0.
func (l *list) number(n int64) {
	for ; n >= more; n >>= bits {
		l.put(byte(n) | more)
	}
	l.put(byte(n))
}

// writer is a log's bytes so far, and the At of the last record among them.
type writer struct {
	list
	at int64
}

func (w *writer) head(l api.Log) {
	w.put([]byte(mark)...)
	w.number(int64(l.Form.Frames))
	w.number(int64(l.Form.Sectors))
	w.number(int64(l.Most))
}

func (w *writer) record(r api.Record) {
	var content list
	content.put(byte(r.Kind))
	content.number(r.At - w.at)
	content.number(int64(r.N))
	content.put(r.Bytes...)
	w.number(int64(len(content)))
	w.put(content...)
	w.at = r.At
}

// taker takes n bytes from the front of what is left, or tells that there are not so many.
type taker func(n int64) (taken []byte, there bool)

// takerOf takes from bytes, and leaves there what is left of them.
func takerOf(left *[]byte) taker {
	return func(n int64) ([]byte, bool) {
		if n > int64(len(*left)) {
			return nil, false
		}
		taken := (*left)[:n]
		*left = (*left)[n:]
		return taken, true
	}
}

// number takes a number: least is whether it has as few bytes as there may be, there whether it does not end too soon. One beyond all numbers is the greatest one, which may stand nowhere.
func (take taker) number() (n int64, least, there bool) {
	for shift := 0; ; shift += bits {
		b, is := take(1)
		if !is {
			return 0, false, false
		}
		part := int64(b[0] % more)
		if part<<shift>>shift == part {
			n |= part << shift
		} else {
			n = math.MaxInt64
		}
		if b[0] < more {
			return n, part != 0 || shift == 0, true
		}
	}
}

// sure takes n bytes, and gives up where they are not there.
func (take taker) sure(n int64, why api.Errno) []byte {
	taken, there := take(n)
	must(there, why)
	return taken
}

// sureNumber takes a number, and gives up where there is none.
func (take taker) sureNumber(why api.Errno) int64 {
	n, least, there := take.number()
	must(least && there, why)
	return n
}

// head tells a log of what stands ahead of the records, and how many bytes that has.
func head(b []byte) (api.Log, int) {
	left := b
	take := takerOf(&left)
	must(string(take.sure(int64(len(mark)), api.ErrHead)) == mark, api.ErrHead)
	var l api.Log
	for _, part := range []*int{&l.Form.Frames, &l.Form.Sectors, &l.Most} {
		*part = int(take.sureNumber(api.ErrHead))
	}
	must(mayBegin(l), api.ErrHead)
	return l, len(b) - len(left)
}

// contents goes over the records from n on whose bytes are all there: where each one ends, and what it has behind the number of its bytes.
func contents(b []byte, n int) iter.Seq2[int, []byte] {
	return func(yield func(int, []byte) bool) {
		left := b[n:]
		take := takerOf(&left)
		for {
			long, least, there := take.number()
			if !there {
				return
			}
			content, there := take(long)
			if !there {
				return
			}
			must(least, api.ErrRecord)
			if !yield(len(b)-len(left), content) {
				return
			}
		}
	}
}

// record tells the record behind one of a time. Its Bytes are still those of the content.
func record(content []byte, at int64) api.Record {
	left := content
	take := takerOf(&left)
	kind := take.sure(1, api.ErrRecord)[0]
	above := take.sureNumber(api.ErrRecord)
	must(above <= mostStep-at, api.ErrRecord) // ahead of the sum, which would come round
	n := take.sureNumber(api.ErrRecord)
	return api.Record{At: at + above, Kind: api.RecordKind(kind), N: int(n), Bytes: left}
}
