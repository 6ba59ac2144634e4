package log

import (
	"bytes"
	"math/big"
	"slices"
	"testing"

	"pomander/api"
)

const (
	last    = 1 << 62 // the greatest At, and End
	highest = 1<<api.MaxLabels - 1
)

// kinds are the Kinds of records, as the chapter's table has them.
var kinds = []struct {
	name           string
	kind           api.RecordKind
	least, most    int // N
	fewest, longer int // Bytes: that few, and fewer than so many
}{
	{"image", api.RecordImage, 0, 65535, 0, 2049},
	{"disk", api.RecordDisk, 0, 255, 0, 65},
	{"console", api.RecordConsole, 0, 0, 0, 257},
	{"net", api.RecordNet, 0, 0, 0, 65},
	{"source", api.RecordSource, 1, 4, 2, 3},
	{"sink", api.RecordSink, 1, 4, 2, 3},
	{"strict", api.RecordStrict, 0, 0, 2, 3},
}

// bounds are numbers at which another byte is needed, and those beside them.
func bounds() []int64 {
	l := []int64{0, 1, 2, 42, 300}
	for n := 7; n < 62; n += 7 {
		l = append(l, 1<<n-1, 1<<n, 1<<n+1)
	}
	return append(l, last-1, last)
}

// row is n bytes, each another one than its neighbours.
func row(n int) []byte {
	b := make([]byte, n)
	for i := range b {
		b[i] = byte(i*7 + 250)
	}
	return b
}

// twoBytes is a set as bytes.
func twoBytes(set int) []byte { return []byte{byte(set), byte(set >> 8)} }

// logOf has records, and is not whole.
func logOf(l ...api.Record) api.Log {
	return api.Log{Form: api.Form{Frames: 2, Sectors: 1}, Most: 4, Records: l}
}

// wholeOf has records, and an end.
func wholeOf(end int64, l ...api.Record) api.Log {
	whole := logOf(l...)
	whole.Whole, whole.End = true, end
	return whole
}

func typed(at int64, text string) api.Record {
	return api.Record{At: at, Kind: api.RecordConsole, Bytes: []byte(text)}
}

// small is a log of each Kind, with numbers of one byte and of several.
func small() api.Log {
	return api.Log{Form: api.Form{Frames: 32, Sectors: 7}, Most: 300, Whole: true, End: 1 << 40, Records: []api.Record{
		{Kind: api.RecordSource, N: 4, Bytes: twoBytes(highest)},
		{Kind: api.RecordImage, N: 128, Bytes: row(130)},
		{At: 3, Kind: api.RecordDisk, N: 255, Bytes: row(64)},
		{At: 127, Kind: api.RecordConsole},
		{At: 300, Kind: api.RecordNet, Bytes: row(3)},
		{At: 300, Kind: api.RecordSink, N: 1, Bytes: twoBytes(0)},
		{At: 1 << 35, Kind: api.RecordStrict, Bytes: twoBytes(1 << 15)},
	}}
}

// copied is the same log, in memory of its own.
func copied(l api.Log) api.Log {
	l.Records = slices.Clone(l.Records)
	for n := range l.Records {
		l.Records[n].Bytes = bytes.Clone(l.Records[n].Bytes)
	}
	return l
}

// numberByHand is a number's bytes: its digits to the base 128.
func numberByHand(n int64) []byte {
	b := []byte{byte(n % 128)}
	for n /= 128; n > 0; n /= 128 {
		b[len(b)-1] += 128
		b = append(b, byte(n%128))
	}
	return b
}

// recordByHand is a record's bytes: how many it has, its Kind, so many steps behind the one ahead of it, N, and others.
func recordByHand(kind int, above, n int64, b ...byte) []byte {
	content := slices.Concat([]byte{byte(kind)}, numberByHand(above), numberByHand(n), b)
	return slices.Concat(numberByHand(int64(len(content))), content)
}

// headByHand is what stands ahead of records.
func headByHand(l api.Log) []byte {
	return slices.Concat([]byte("PMDR"), numberByHand(int64(l.Form.Frames)), numberByHand(int64(l.Form.Sectors)), numberByHand(int64(l.Most)))
}

// partsByHand are the head, and each record's bytes, the end's among them.
func partsByHand(l api.Log) [][]byte {
	parts, at := [][]byte{headByHand(l)}, int64(0)
	for _, r := range l.Records {
		parts = append(parts, recordByHand(int(r.Kind), r.At-at, int64(r.N), r.Bytes...))
		at = r.At
	}
	if l.Whole {
		parts = append(parts, recordByHand(8, l.End-at, 0))
	}
	return parts
}

func bytesByHand(l api.Log) []byte { return slices.Concat(partsByHand(l)...) }

// takenByHand is a number of any length at the front of bytes, how many it has (none, if it ends too soon), and whether they could be fewer.
func takenByHand(b []byte) (n *big.Int, long int, fewer bool) {
	n = new(big.Int)
	for i, digit := range b {
		n.Add(n, new(big.Int).Lsh(big.NewInt(int64(digit&127)), uint(7*i)))
		if digit < 128 {
			return n, i + 1, i > 0 && digit == 0
		}
	}
	return nil, 0, false
}

// within tells whether a number is from least to most, and has no more bytes than it needs.
func within(n *big.Int, fewer bool, least, most int64) bool {
	return !fewer && n.Cmp(big.NewInt(least)) >= 0 && n.Cmp(big.NewInt(most)) <= 0
}

// decodedByHand tells by the chapter's words what bytes are.
func decodedByHand(b []byte) (api.Log, int, api.Errno) {
	var l api.Log
	if !bytes.HasPrefix(b, []byte("PMDR")) {
		return api.Log{}, 0, api.ErrHead
	}
	n := 4
	for part, to := range []*int{&l.Form.Frames, &l.Form.Sectors, &l.Most} {
		number, long, fewer := takenByHand(b[n:])
		if long == 0 || !within(number, fewer, 1, []int64{32, 32, 65536}[part]) {
			return api.Log{}, 0, api.ErrHead
		}
		*to = int(number.Int64())
		n += long
	}
	at := int64(0)
	for {
		if l.Whole && n < len(b) {
			return api.Log{}, 0, api.ErrRecord
		}
		size, long, fewer := takenByHand(b[n:])
		if long == 0 || size.Cmp(big.NewInt(int64(len(b)-n-long))) > 0 {
			return l, n, api.OK
		}
		content := b[n+long : n+long+int(size.Int64())]
		r, may := recordFromHand(content, at)
		if fewer || !may {
			return api.Log{}, 0, api.ErrRecord
		}
		n, at = n+long+len(content), r.At
		if r.Kind == api.RecordEnd {
			l.Whole, l.End = true, r.At
		} else {
			l.Records = append(l.Records, r)
		}
	}
}

// recordFromHand is the record of what stands behind its length, if it may be.
func recordFromHand(content []byte, at int64) (api.Record, bool) {
	if len(content) == 0 {
		return api.Record{}, false
	}
	kind, rest := api.RecordKind(content[0]), content[1:]
	above, long, fewer := takenByHand(rest)
	if long == 0 || !within(above, fewer, 0, last-at) {
		return api.Record{}, false
	}
	rest = rest[long:]
	n, long, fewer := takenByHand(rest)
	if long == 0 || !within(n, fewer, 0, 65535) {
		return api.Record{}, false
	}
	r := api.Record{At: at + above.Int64(), Kind: kind, N: int(n.Int64()), Bytes: rest[long:]}
	if kind == api.RecordEnd {
		return r, r.N == 0 && len(r.Bytes) == 0
	}
	for _, k := range kinds {
		if k.kind == kind {
			return r, k.least <= r.N && r.N <= k.most && k.fewest <= len(r.Bytes) && len(r.Bytes) < k.longer
		}
	}
	return api.Record{}, false
}

// goes fails where a log is refused, or has other bytes than by hand, or comes back from them as another one.
func goes(t *testing.T, l api.Log) {
	t.Helper()
	if errno := Check(l); errno != api.OK {
		t.Fatalf("Check(%v) is %v", l, errno)
	}
	b, errno := Encode(l)
	if wanted := bytesByHand(l); errno != api.OK || !bytes.Equal(b, wanted) {
		t.Fatalf("Encode(%v) is %x, %v, not %x", l, b, errno, wanted)
	}
	decodes(t, b, l, len(b))
	wanted := 32
	for _, r := range l.Records {
		wanted += 16 + len(r.Bytes)
	}
	if most, errno := Bound(l); most != wanted || errno != api.OK || len(b) > most {
		t.Errorf("Bound(%v) is %d, %v, not %d; it has %d bytes", l, most, errno, wanted, len(b))
	}
}

// refuses fails where a log may be.
func refuses(t *testing.T, l api.Log) {
	t.Helper()
	if errno := Check(l); errno != api.ErrRecord {
		t.Errorf("Check(%v) is %v", l, errno)
	}
	if b, errno := Encode(l); b != nil || errno != api.ErrRecord {
		t.Errorf("Encode(%v) is %x, %v", l, b, errno)
	}
	if most, errno := Bound(l); most != 0 || errno != api.ErrRecord {
		t.Errorf("Bound(%v) is %d, %v", l, most, errno)
	}
}

// decodes fails where bytes are of another log, or others of them are read.
func decodes(t *testing.T, b []byte, wanted api.Log, read int) {
	t.Helper()
	got, n, errno := Decode(b)
	if errno != api.OK || n != read || !sameByHand(got, wanted) {
		t.Fatalf("Decode(%x) is %v, %d, %v, not %v, %d", b, got, n, errno, wanted, read)
	}
	if again, errno := Encode(got); errno != api.OK || !bytes.Equal(again, b[:n]) {
		t.Errorf("Encode of what Decode(%x) tells is %x, %v", b, again, errno)
	}
}

// isNone fails where bytes are a log's, or not refused so.
func isNone(t *testing.T, wanted api.Errno, b []byte) {
	t.Helper()
	if l, n, errno := Decode(b); errno != wanted || n != 0 || !sameByHand(l, api.Log{}) {
		t.Errorf("Decode(%x) is %v, %d, %v, not %v", b, l, n, errno, wanted)
	}
}

// sameByHand holds two logs against each other, part by part.
func sameByHand(a, b api.Log) bool {
	if a.Form != b.Form || a.Most != b.Most || a.Whole != b.Whole || a.End != b.End || len(a.Records) != len(b.Records) {
		return false
	}
	for n, r := range a.Records {
		other := b.Records[n]
		if r.At != other.At || r.Kind != other.Kind || r.N != other.N || string(r.Bytes) != string(other.Bytes) {
			return false
		}
	}
	return true
}
