package log

import (
	"bytes"
	"slices"
	"testing"

	"pomander/api"
)

// of is bytes, with a head's ahead of them.
func of(b ...byte) []byte { return append([]byte("PMDR\x02\x01\x04"), b...) }

// cuts fails where a log's bytes, cut off anywhere behind the head, are not of all records that are whole.
func cuts(t *testing.T, l api.Log) {
	t.Helper()
	parts := partsByHand(l)
	b := slices.Concat(parts...)
	for at := len(parts[0]); at < len(b); at++ {
		wanted, read, records := l, len(parts[0]), 0
		for _, part := range parts[1:] {
			if read+len(part) > at {
				break
			}
			read += len(part)
			records++
		}
		wanted.Records, wanted.Whole, wanted.End = l.Records[:records], false, 0
		decodes(t, b[:at], wanted, read)
	}
	decodes(t, b, l, len(b))
}

func TestCutOff(t *testing.T) { // P16.2, P16.4
	cuts(t, small())
	cuts(t, logOf())
	cuts(t, wholeOf(last))
	cuts(t, logOf(typed(last, "late"), typed(last, ""), typed(last, "later")))
	cuts(t, wholeOf(1<<60, typed(1<<20, string(row(256))), api.Record{At: 1 << 50, Kind: api.RecordImage, N: 65535, Bytes: row(2048)}))
	open := small()
	open.Whole, open.End = false, 0
	cuts(t, open)
}

func TestHeads(t *testing.T) { // P16.2
	whole := bytesByHand(small())
	for at := range headByHand(small()) { // ends within the head
		isNone(t, api.ErrHead, whole[:at])
	}
	isNone(t, api.ErrHead, nil)
	isNone(t, api.ErrHead, []byte{})
	for name, b := range map[string]string{
		"another first byte":        "pMDR\x02\x01\x04",
		"another second byte":       "PmDR\x02\x01\x04",
		"another third byte":        "PMdR\x02\x01\x04",
		"another fourth byte":       "PMDr\x02\x01\x04",
		"something ahead":           "\x00PMDR\x02\x01\x04",
		"another mark":              "PMIM\x02\x01\x04",
		"no frames":                 "PMDR\x00\x01\x04",
		"no sectors":                "PMDR\x02\x00\x04",
		"a bound of 0":              "PMDR\x02\x01\x00",
		"too many frames":           "PMDR\x21\x01\x04",
		"too many sectors":          "PMDR\x02\x21\x04",
		"a bound of 65537":          "PMDR\x02\x01\x81\x80\x04",
		"frames of 256 + 2":         "PMDR\x82\x02\x01\x04",
		"frames of 2^32 + 2":        "PMDR\x82\x80\x80\x80\x10\x01\x04",
		"frames of 2^63 + 2":        "PMDR\x82\x80\x80\x80\x80\x80\x80\x80\x80\x01\x01\x04",
		"frames of 2^64 + 2":        "PMDR\x82\x80\x80\x80\x80\x80\x80\x80\x80\x02\x01\x04",
		"sectors of 2^70 + 1":       "PMDR\x02\x81\x80\x80\x80\x80\x80\x80\x80\x80\x80\x01\x04",
		"a bound of 2^63":           "PMDR\x02\x01\x80\x80\x80\x80\x80\x80\x80\x80\x80\x01",
		"a bound of 2^77 + 4":       "PMDR\x02\x01\x84\x80\x80\x80\x80\x80\x80\x80\x80\x80\x80\x01",
		"frames longer than needed": "PMDR\x82\x00\x01\x04",
		"sectors likewise":          "PMDR\x02\x81\x80\x00\x04",
		"a bound likewise":          "PMDR\x02\x01\x84\x80\x80\x00",
		"a bound without end":       "PMDR\x02\x01\x84\x80\x80",
		"frames without end":        "PMDR\x82\x82\x81",
	} {
		t.Run(name, func(t *testing.T) {
			isNone(t, api.ErrHead, []byte(b))
			for _, behind := range []string{"\x00", "\x01\x09", "\x03\x08\x00\x00", "\x03\x03\x00\x00"} {
				if last := len(b) - 1; b[last] < 128 { // the number ends: ahead of what stands behind it
					isNone(t, api.ErrHead, []byte(b+behind))
				}
			}
		})
	}
	decodes(t, []byte("PMDR\x20\x20\x80\x80\x04"), api.Log{Form: api.Form{Frames: 32, Sectors: 32}, Most: 65536}, 9)
	decodes(t, []byte("PMDR\x01\x01\x01"), api.Log{Form: api.Form{Frames: 1, Sectors: 1}, Most: 1}, 7)
}

func TestRecordsThatMayNotBe(t *testing.T) { // P16.2
	a := recordByHand(3, 5, 0, 'a')
	for name, b := range map[string][]byte{
		"of no bytes":                       {0},
		"a Kind alone":                      {1, 3},
		"a Kind that is none alone":         {1, 9},
		"without N":                         {2, 3, 0},
		"At ends too soon":                  {2, 3, 128},
		"At ends too soon, of several":      {4, 3, 255, 255, 255},
		"N ends too soon":                   {3, 3, 0, 128},
		"N ends too soon, of several":       {5, 1, 0, 128, 129, 130},
		"the Kind 0":                        {3, 0, 0, 0},
		"the Kind 9":                        {3, 9, 0, 0},
		"the Kind 131":                      {4, 131, 1, 0, 0},
		"the Kind 255":                      {3, 255, 0, 0},
		"N of the console":                  recordByHand(3, 0, 1, 'a'),
		"N of the net":                      recordByHand(4, 0, 1, 'a'),
		"N of the strict set":               recordByHand(7, 0, 1, 1, 0),
		"an address beyond":                 recordByHand(1, 0, 65536, 'a'),
		"an address of 2^32":                recordByHand(1, 0, 1<<32, 'a'),
		"an address of 2^62":                recordByHand(1, 0, 1<<62, 'a'),
		"a sector beyond":                   recordByHand(2, 0, 256, 'a'),
		"the source 0":                      recordByHand(5, 0, 0, 1, 0),
		"the source 5":                      recordByHand(5, 0, 5, 1, 0),
		"the sink 0":                        recordByHand(6, 0, 0, 1, 0),
		"the sink 5":                        recordByHand(6, 0, 5, 1, 0),
		"too long an image":                 recordByHand(1, 0, 0, row(2049)...),
		"too long a sector":                 recordByHand(2, 0, 0, row(65)...),
		"too long a text":                   recordByHand(3, 0, 0, row(257)...),
		"too long a packet":                 recordByHand(4, 0, 0, row(65)...),
		"a source without a set":            recordByHand(5, 0, 1),
		"a source's set of one byte":        recordByHand(5, 0, 1, 1),
		"a source's set of three bytes":     recordByHand(5, 0, 1, 1, 0, 0),
		"a sink's set of one byte":          recordByHand(6, 0, 1, 1),
		"a sink's set of three bytes":       recordByHand(6, 0, 1, 1, 0, 0),
		"a strict set of one byte":          recordByHand(7, 0, 0, 1),
		"a strict set of three bytes":       recordByHand(7, 0, 0, 1, 0, 0),
		"an end with N":                     recordByHand(8, 0, 1),
		"an end with Bytes":                 recordByHand(8, 0, 0, 0),
		"an end with both":                  recordByHand(8, 0, 2, 1, 0),
		"At beyond the last step":           recordByHand(3, last+1, 0, 'a'),
		"the end beyond the last step":      recordByHand(8, last+1, 0),
		"At of 2^63":                        {13, 3, 128, 128, 128, 128, 128, 128, 128, 128, 128, 1, 0, 'a'},
		"At of 2^64":                        {13, 3, 128, 128, 128, 128, 128, 128, 128, 128, 128, 2, 0, 'a'},
		"At of 2^70":                        {14, 3, 128, 128, 128, 128, 128, 128, 128, 128, 128, 128, 1, 0, 'a'},
		"N of 2^64":                         {13, 1, 0, 128, 128, 128, 128, 128, 128, 128, 128, 128, 2, 'a'},
		"N of 2^63 + 1":                     {13, 1, 0, 129, 128, 128, 128, 128, 128, 128, 128, 128, 1, 'a'},
		"a length longer than needed":       {132, 0, 3, 0, 0, 'a'},
		"a length of 0 longer than needed":  {128, 0},
		"a length of three bytes for one":   {132, 128, 0, 3, 0, 0, 'a'},
		"a length of twelve bytes for one":  {132, 128, 128, 128, 128, 128, 128, 128, 128, 128, 128, 0, 3, 0, 0, 'a'},
		"At longer than needed":             {5, 3, 133, 0, 0, 'a'},
		"At of 0 longer than needed":        {4, 3, 128, 0, 0},
		"N longer than needed":              {5, 3, 0, 128, 0, 'a'},
		"an address longer than needed":     {6, 1, 0, 133, 128, 0, 'a'},
		"the end's At longer than needed":   {4, 8, 133, 0, 0},
		"the end's N longer than needed":    {4, 8, 0, 128, 0},
		"the end's length longer, likewise": {131, 0, 8, 0, 0},
	} {
		t.Run(name, func(t *testing.T) {
			isNone(t, api.ErrRecord, of(b...))
			isNone(t, api.ErrRecord, of(slices.Concat(a, b)...))
			isNone(t, api.ErrRecord, of(slices.Concat(b, a)...))
			isNone(t, api.ErrRecord, of(slices.Concat(a, b, []byte{200})...))
			for at := range b { // as long as not all of its bytes are there, it is no error
				decodes(t, of(append(slices.Clone(a), b[:at]...)...), logOf(typed(5, "a")), 12)
			}
		})
	}
}

// TestLateRecords: how far a record is behind the one ahead of it hangs on that one's At.
func TestLateRecords(t *testing.T) { // P16.2
	for _, first := range bounds() {
		b := recordByHand(3, first, 0, 'a')
		l := logOf(typed(first, "a"), typed(last, "b"))
		goes(t, l)
		decodes(t, of(slices.Concat(b, recordByHand(3, last-first, 0, 'b'))...), l, len(bytesByHand(l)))
		isNone(t, api.ErrRecord, of(slices.Concat(b, recordByHand(3, last-first+1, 0, 'b'))...))
		isNone(t, api.ErrRecord, of(slices.Concat(b, recordByHand(8, last-first+1, 0))...))
		if first > 0 {
			isNone(t, api.ErrRecord, of(slices.Concat(b, recordByHand(3, last, 0, 'b'))...))
		}
	}
}

// TestBehindTheEnd: nothing may stand there, no beginning of a record either.
func TestBehindTheEnd(t *testing.T) { // P16.2
	for _, l := range []api.Log{wholeOf(0), wholeOf(last), small()} {
		b := bytesByHand(l)
		decodes(t, b, l, len(b))
		for _, behind := range [][]byte{{0}, {1}, {3}, {128}, {255}, {10}, {255, 255, 255}, recordByHand(8, 0, 0), recordByHand(3, 0, 0, 'a'), []byte("PMDR\x02\x01\x04")} {
			isNone(t, api.ErrRecord, slices.Concat(b, behind))
		}
	}
}

// TestNotAllThere: a number, a record that ends too soon is no error, however great it is, nor what a beginning of it says.
func TestNotAllThere(t *testing.T) { // P16.2
	for name, b := range map[string][]byte{
		"nothing":                           nil,
		"a length without end":              {128},
		"a length of 30 bytes without end":  bytes.Repeat([]byte{255}, 30),
		"a length of noughts without end":   bytes.Repeat([]byte{128}, 30),
		"a length alone":                    {1},
		"a length of two bytes alone":       {128, 1},
		"a length that no record has":       {255, 255, 3, 3, 0, 0},
		"a length of 2^31":                  {128, 128, 128, 128, 8, 3, 0, 0},
		"a length of 2^63 - 1":              {255, 255, 255, 255, 255, 255, 255, 255, 127, 3, 0, 0},
		"a length of 2^63":                  {128, 128, 128, 128, 128, 128, 128, 128, 128, 1, 3, 0, 0},
		"a length of 2^64 + 3":              {131, 128, 128, 128, 128, 128, 128, 128, 128, 2, 3, 0, 0},
		"a length of 2^70 + 3":              {131, 128, 128, 128, 128, 128, 128, 128, 128, 128, 1, 3, 0, 0},
		"a length of 30 bytes":              append(bytes.Repeat([]byte{255}, 30), 1, 3, 0, 0),
		"a Kind that is none":               {4, 9, 0, 0},
		"N that may not be":                 {4, 3, 0, 1},
		"At longer than needed":             {6, 3, 133, 0, 0},
		"an end with Bytes":                 {5, 8, 0, 0, 1},
		"a length longer than needed":       {133, 0, 3, 0, 0, 'a'},
		"a length longer than needed alone": {129, 0},
	} {
		t.Run(name, func(t *testing.T) {
			decodes(t, of(b...), logOf(), 7)
			a := recordByHand(3, 300, 0, 'h', 'i')
			decodes(t, of(append(a, b...)...), logOf(typed(300, "hi")), 14)
		})
	}
}

// TestLongLog: steps and records may be many.
func TestLongLog(t *testing.T) { // P16.1, P16.4
	l := wholeOf(1 << 30)
	for n := range int64(3000) {
		l.Records = append(l.Records, api.Record{At: n * n, Kind: api.RecordImage, N: int(n), Bytes: row(int(n) % 2049)})
	}
	goes(t, l) // beyond 2^20 bytes
}
