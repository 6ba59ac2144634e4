package log

import (
	"bytes"
	"math"
	"slices"
	"testing"

	"pomander/api"
)

func TestExamples(t *testing.T) { // P16.1, P16.2
	for _, row := range []struct {
		l      api.Log
		wanted string
	}{
		{logOf(), "PMDR\x02\x01\x04"},
		{wholeOf(301, typed(300, "hi")), "PMDR\x02\x01\x04\x06\x03\xac\x02\x00hi\x03\x08\x01\x00"},
	} {
		if b, errno := Encode(row.l); string(b) != row.wanted || errno != api.OK {
			t.Errorf("Encode(%v) is %x, %v", row.l, b, errno)
		}
		goes(t, row.l)
	}
	decodes(t, []byte("PMDR\x02\x01\x04\x06\x03\xac\x02\x00hi\x03\x08\x01"), logOf(typed(300, "hi")), 14)
	isNone(t, api.ErrHead, []byte("PMD"))
	isNone(t, api.ErrRecord, []byte("PMDR\x02\x01\x04\x01\x09"))
}

// TestRows: logs at the edges, their bytes written out.
func TestRows(t *testing.T) { // P16.1, P16.2
	for name, row := range map[string]struct {
		l      api.Log
		wanted string
	}{
		"the least form, the least bound":       {api.Log{Form: api.Form{Frames: 1, Sectors: 1}, Most: 1}, "PMDR\x01\x01\x01"},
		"the greatest form, the greatest bound": {api.Log{Form: api.Form{Frames: 32, Sectors: 32}, Most: 65536}, "PMDR\x20\x20\x80\x80\x04"},
		"frames ahead of sectors":               {api.Log{Form: api.Form{Frames: 3, Sectors: 5}, Most: 127}, "PMDR\x03\x05\x7f"},
		"a bound of two bytes":                  {api.Log{Form: api.Form{Frames: 1, Sectors: 1}, Most: 128}, "PMDR\x01\x01\x80\x01"},
		"no records, whole, End 0":              {wholeOf(0), "PMDR\x02\x01\x04\x03\x08\x00\x00"},
		"no records, whole, the last End":       {wholeOf(last), "PMDR\x02\x01\x04\x0b\x08\x80\x80\x80\x80\x80\x80\x80\x80\x40\x00"},
		"empty lists":                           {api.Log{Form: api.Form{Frames: 2, Sectors: 1}, Most: 4, Records: []api.Record{}}, "PMDR\x02\x01\x04"},
		"no Bytes, whole, all at 0":             {wholeOf(0, typed(0, "")), "PMDR\x02\x01\x04\x03\x03\x00\x00\x03\x08\x00\x00"},
		"At as that ahead, End as At":           {wholeOf(200, typed(200, "a"), typed(200, "b")), "PMDR\x02\x01\x04\x05\x03\xc8\x01\x00a\x04\x03\x00\x00b\x03\x08\x00\x00"},
		"At above that ahead, End above At":     {wholeOf(500, typed(1, "a"), typed(129, "b")), "PMDR\x02\x01\x04\x04\x03\x01\x00a\x05\x03\x80\x01\x00b\x04\x08\xf3\x02\x00"},
		"At at the last step":                   {logOf(typed(last, "a"), typed(last, "b")), "PMDR\x02\x01\x04\x0c\x03\x80\x80\x80\x80\x80\x80\x80\x80\x40\x00a\x04\x03\x00\x00b"},
		"an image at 300":                       {logOf(api.Record{Kind: 1, N: 300, Bytes: []byte{9, 200}}), "PMDR\x02\x01\x04\x06\x01\x00\xac\x02\x09\xc8"},
		"the disk's last sector":                {logOf(api.Record{Kind: 2, N: 255, Bytes: []byte{0}}), "PMDR\x02\x01\x04\x05\x02\x00\xff\x01\x00"},
		"a packet":                              {logOf(api.Record{Kind: 4, Bytes: []byte{8}}), "PMDR\x02\x01\x04\x04\x04\x00\x00\x08"},
		"a source's set":                        {logOf(api.Record{Kind: 5, N: 3, Bytes: twoBytes(258)}), "PMDR\x02\x01\x04\x05\x05\x00\x03\x02\x01"},
		"a sink's set":                          {logOf(api.Record{Kind: 6, N: 4, Bytes: twoBytes(1)}), "PMDR\x02\x01\x04\x05\x06\x00\x04\x01\x00"},
		"the strict set":                        {logOf(api.Record{Kind: 7, Bytes: twoBytes(highest)}), "PMDR\x02\x01\x04\x05\x07\x00\x00\xff\xff"},
	} {
		t.Run(name, func(t *testing.T) {
			if b, errno := Encode(row.l); string(b) != row.wanted || errno != api.OK {
				t.Errorf("Encode is %x, %v", b, errno)
			}
			goes(t, row.l)
		})
	}
}

func TestForms(t *testing.T) { // P16.1
	for _, most := range []int{1, 2, 127, 128, 16383, 16384, 65535, 65536} {
		for frames := 1; frames <= 32; frames++ {
			for _, sectors := range []int{1, 2, 31, 32} {
				goes(t, api.Log{Form: api.Form{Frames: frames, Sectors: sectors}, Most: most})
				goes(t, api.Log{Form: api.Form{Frames: sectors, Sectors: frames}, Most: most, Whole: true, End: 9})
			}
		}
	}
	for _, wrong := range []int{0, -1, 33, 34, 256 + 1, 1<<32 + 1, math.MaxInt, math.MinInt} {
		for _, whole := range []bool{false, true} {
			refuses(t, api.Log{Form: api.Form{Frames: wrong, Sectors: 1}, Most: 1, Whole: whole})
			refuses(t, api.Log{Form: api.Form{Frames: 1, Sectors: wrong}, Most: 1, Whole: whole})
		}
	}
	for _, wrong := range []int{0, -1, 65537, 1 << 17, 1<<32 + 1, math.MaxInt, math.MinInt} {
		refuses(t, api.Log{Form: api.Form{Frames: 1, Sectors: 1}, Most: wrong})
		refuses(t, api.Log{Form: api.Form{Frames: 1, Sectors: 1}, Most: wrong, Whole: true})
	}
	refuses(t, api.Log{})
}

// TestEachKind: N and Bytes at their bounds, and beyond.
func TestEachKind(t *testing.T) { // P16.1, P16.4
	for _, k := range kinds {
		t.Run(k.name, func(t *testing.T) {
			for _, n := range []int{k.least, (k.least + k.most) / 2, k.most} {
				for _, long := range []int{k.fewest, (k.fewest + k.longer) / 2, k.longer - 1} {
					r := api.Record{At: 5, Kind: k.kind, N: n, Bytes: row(long)}
					goes(t, logOf(r))
					goes(t, wholeOf(5, r, r))
				}
				for _, long := range []int{k.longer, k.longer + 1, 2 * k.longer, 4096, 70000} {
					refuses(t, logOf(api.Record{Kind: k.kind, N: n, Bytes: row(long)}))
				}
				for long := range k.fewest {
					refuses(t, logOf(api.Record{Kind: k.kind, N: n, Bytes: row(long)}))
				}
			}
			for _, n := range []int{k.least - 1, -1, k.most + 1, k.most + 2, 1 << 16, 1 << 32, 1<<32 + k.most, math.MaxInt, math.MinInt} {
				refuses(t, logOf(api.Record{Kind: k.kind, N: n, Bytes: row(k.longer - 1)}))
				refuses(t, wholeOf(9, typed(3, "a"), api.Record{At: 3, Kind: k.kind, N: n, Bytes: row(k.longer - 1)}, typed(3, "b")))
			}
		})
	}
	for _, wrong := range []int{0, 8, 9, 10, 64, 255, 256, 257, 256 + 3, 1<<32 + 3, math.MaxInt, -1, -253, math.MinInt} {
		for _, b := range [][]byte{nil, row(1), row(2)} {
			r := api.Record{Kind: api.RecordKind(wrong), Bytes: b}
			for _, l := range []api.Log{logOf(r), logOf(r, typed(0, "a")), logOf(typed(0, "a"), r), wholeOf(0, r), wholeOf(9, typed(0, "a"), r)} {
				refuses(t, l)
			}
		}
	}
}

// TestSets: of each label alone, of none, of all.
func TestSets(t *testing.T) { // P16.1, P16.4
	sets := []int{0, highest, highest - 1, 0x5aa5}
	for label := range api.MaxLabels {
		sets = append(sets, 1<<label)
	}
	for _, set := range sets {
		for kind := 1; kind <= 4; kind++ {
			goes(t, logOf(api.Record{Kind: api.RecordSource, N: kind, Bytes: twoBytes(set)}, api.Record{Kind: api.RecordSink, N: kind, Bytes: twoBytes(set)}))
		}
		goes(t, wholeOf(4, api.Record{Kind: api.RecordStrict, Bytes: twoBytes(set)}))
	}
}

// TestSteps: numbers of steps at the bounds between one byte and the next.
func TestSteps(t *testing.T) { // P16.1, P16.4, P16.5
	for _, first := range bounds() {
		goes(t, logOf(typed(first, "a")))
		goes(t, wholeOf(first))
		for _, second := range bounds() {
			l := logOf(typed(first, "a"), typed(second, "b"))
			if second < first {
				refuses(t, l)
				refuses(t, wholeOf(second, typed(first, "a")))
				l.Whole, l.End = true, last
				refuses(t, l)
				continue
			}
			goes(t, l)
			goes(t, wholeOf(second, typed(first, "a")))
			goes(t, wholeOf(second, l.Records...))
			goes(t, wholeOf(last, l.Records...))
		}
	}
}

func TestStepsThatMayNotBe(t *testing.T) { // P16.1
	for _, wrong := range []int64{-1, -2, -last, math.MinInt64, last + 1, last + last/2, math.MaxInt64} {
		refuses(t, logOf(typed(wrong, "a")))
		refuses(t, logOf(typed(wrong, "a"), typed(max(wrong, 0), "b")))
		refuses(t, logOf(typed(3, "a"), typed(wrong, "b")))
		refuses(t, wholeOf(wrong))
		refuses(t, wholeOf(wrong, typed(0, "a")))
		refuses(t, wholeOf(wrong, typed(wrong, "a")))
		refuses(t, wholeOf(last, typed(wrong, "a")))
	}
	refuses(t, logOf(typed(3, "a"), typed(2, "b")))
	refuses(t, logOf(typed(3, "a"), typed(0, "b"), typed(3, "c")))
	refuses(t, logOf(typed(last, "a"), typed(last-1, "b")))
	refuses(t, wholeOf(2, typed(3, "a")))
	refuses(t, wholeOf(0, typed(0, "a"), typed(1, "b")))
	refuses(t, wholeOf(last-1, typed(1, "a"), typed(last, "b")))
	for _, end := range []int64{1, -1, 3, last, math.MaxInt64, math.MinInt64} { // one that is not whole has no End
		for _, l := range []api.Log{logOf(), logOf(typed(0, "a")), logOf(typed(3, "a"))} {
			l.End = end
			refuses(t, l)
		}
	}
}

// TestBound: the longest log of so many records is still no longer than that.
func TestBound(t *testing.T) { // P16.3, P16.5
	l := api.Log{Form: api.Form{Frames: 32, Sectors: 32}, Most: 65536}
	for n := range 64 { // each number of steps has nine bytes
		l.Records = append(l.Records, api.Record{At: int64(n+1) << 56, Kind: api.RecordImage, N: 65535, Bytes: row(2048)})
		goes(t, l)
		whole := l
		whole.Whole, whole.End = true, last
		goes(t, whole)
	}
	for name, row := range map[string]struct {
		l      api.Log
		wanted int
	}{
		"no records":              {logOf(), 32},
		"no records, whole":       {wholeOf(last), 32},
		"no Bytes":                {logOf(typed(0, "")), 48},
		"Bytes of several, whole": {wholeOf(9, typed(1, "abc"), typed(2, ""), typed(3, "defgh")), 88},
		"how late is nothing":     {wholeOf(last, typed(last, "abc")), 51},
	} {
		if most, errno := Bound(row.l); most != row.wanted || errno != api.OK {
			t.Errorf("%s: Bound is %d, %v", name, most, errno)
		}
	}
}

// TestStepsCostNothing: however late a record comes, it has no more than nine bytes for that.
func TestStepsCostNothing(t *testing.T) { // P16.5
	for _, at := range bounds() {
		early, _ := Encode(wholeOf(0, typed(0, "hello")))
		late, _ := Encode(wholeOf(at, typed(at, "hello")))
		if len(late) > len(early)+8 {
			t.Errorf("at %d there are %d bytes, at 0 %d", at, len(late), len(early))
		}
	}
}

// TestSame: logs that differ in one part alone are not the same, nil and empty lists are.
func TestSame(t *testing.T) { // P16.1
	for name, change := range map[string]func(l *api.Log){
		"frames":              func(l *api.Log) { l.Form.Frames-- },
		"sectors":             func(l *api.Log) { l.Form.Sectors++ },
		"frames and sectors":  func(l *api.Log) { l.Form.Frames, l.Form.Sectors = l.Form.Sectors, l.Form.Frames },
		"the bound":           func(l *api.Log) { l.Most++ },
		"whole":               func(l *api.Log) { l.Whole = false },
		"End":                 func(l *api.Log) { l.End++ },
		"one record less":     func(l *api.Log) { l.Records = l.Records[:6] },
		"the first one less":  func(l *api.Log) { l.Records = l.Records[1:] },
		"no record":           func(l *api.Log) { l.Records = nil },
		"one record more":     func(l *api.Log) { l.Records = append(l.Records, api.Record{}) },
		"the first At":        func(l *api.Log) { l.Records[0].At++ },
		"the last At":         func(l *api.Log) { l.Records[6].At-- },
		"a Kind":              func(l *api.Log) { l.Records[3].Kind++ },
		"N":                   func(l *api.Log) { l.Records[1].N++ },
		"the last N":          func(l *api.Log) { l.Records[6].N++ },
		"the first byte":      func(l *api.Log) { l.Records[1].Bytes[0]++ },
		"the last byte":       func(l *api.Log) { l.Records[6].Bytes[1]++ },
		"one byte less":       func(l *api.Log) { l.Records[1].Bytes = l.Records[1].Bytes[:129] },
		"one byte more":       func(l *api.Log) { l.Records[3].Bytes = []byte{0} },
		"no bytes":            func(l *api.Log) { l.Records[2].Bytes = nil },
		"two records' places": func(l *api.Log) { l.Records[4], l.Records[5] = l.Records[5], l.Records[4] },
	} {
		l, other := small(), small()
		if !Same(l, other) || !Same(l, l) {
			t.Errorf("%s: without it they are not the same", name)
		}
		change(&other)
		if Same(l, other) || Same(other, l) || !Same(other, copied(other)) {
			t.Errorf("%s: it is not seen", name)
		}
	}
	for _, l := range [][]api.Log{
		{logOf(), {Form: logOf().Form, Most: 4, Records: []api.Record{}}},
		{logOf(typed(1, "")), logOf(api.Record{At: 1, Kind: api.RecordConsole})},
		{{}, {Records: []api.Record{}}},
		{{Records: []api.Record{{}}}, {Records: []api.Record{{Bytes: []byte{}}}}}, // logs that may not be, too
	} {
		if !Same(l[0], l[1]) || !Same(l[1], l[0]) {
			t.Errorf("%v and %v are not the same", l[0], l[1])
		}
	}
	if Same(logOf(api.Record{}), logOf()) || Same(logOf(), logOf(api.Record{})) || Same(api.Log{End: 1}, api.Log{}) {
		t.Error("logs that may not be are the same as others")
	}
}

// TestWhatIsHandedInStays: nothing of it is changed, spare room behind it included, nor kept.
func TestWhatIsHandedInStays(t *testing.T) { // P16.1, P16.2, P16.3
	l, wanted := small(), small()
	room := append(l.Records, typed(1, "spare"))
	spare := append(l.Records[1].Bytes, 77, 78)
	l.Records, l.Records[1].Bytes = room[:7], spare[:130]
	told, _ := Encode(l)
	Check(l)
	Bound(l)
	Same(l, l)
	if !sameByHand(l, wanted) || spare[130] != 77 || spare[131] != 78 || string(room[7].Bytes) != "spare" {
		t.Errorf("what was handed in is %v, %v, %v", l, spare[130:], room[7:])
	}
	l.Records[1].Bytes[0], l.Records[0].At = 99, 5
	if !bytes.Equal(told, bytesByHand(wanted)) {
		t.Errorf("what Encode told is %x", told)
	}
	given := append(slices.Clone(told), 77, 78)
	got, _, _ := Decode(given[:len(told)])
	if !bytes.Equal(given, append(slices.Clone(told), 77, 78)) {
		t.Errorf("what was handed in is %x", given)
	}
	clear(given)
	if !sameByHand(got, wanted) {
		t.Errorf("what Decode told is %v", got)
	}
}

// TestAnswersAreNewMemory: what is told twice is told apart, and no record's Bytes reach those of another one.
func TestAnswersAreNewMemory(t *testing.T) { // P16.1, P16.2
	wanted := small()
	first, _ := Encode(wanted)
	second, _ := Encode(wanted)
	b := slices.Clone(first)
	clear(first[:cap(first)])
	if !bytes.Equal(second, b) {
		t.Errorf("another answer is %x", second)
	}
	l, _, _ := Decode(b)
	other, _, _ := Decode(b)
	for n := range l.Records {
		own := l.Records[n].Bytes
		clear(own[:cap(own)])
		_ = append(own, 9, 9, 9)
		if kept := copied(wanted); n+1 < len(l.Records) && !sameByHand(api.Log{Records: l.Records[n+1:]}, api.Log{Records: kept.Records[n+1:]}) {
			t.Errorf("the records behind %d are %v", n, l.Records[n+1:])
		}
	}
	if !bytes.Equal(b, second) || !sameByHand(other, wanted) {
		t.Errorf("the bytes are %x, another answer %v", b, other)
	}
}
