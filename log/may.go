package log

import "pomander/api"

// Bounds of what a log has.
const (
	mostSets   = 1 << 16
	mostStep   = 1 << 62
	mostAddr   = 1<<16 - 1
	mostImage  = 2048
	mostSector = 255
	setBytes   = 2
)

// refused gives up what may not be.
type refused api.Errno

// must gives up where something may not be.
func must(may bool, why api.Errno) {
	if !may {
		panic(refused(why))
	}
}

// caught tells why something was given up, or OK.
func caught(cut any) api.Errno {
	switch why := cut.(type) {
	case nil:
		return api.OK
	case refused:
		return api.Errno(why)
	default: // nothing that this package gave up
		panic(cut)
	}
}

// span is the numbers from least to most.
type span struct{ least, most int }

func (s span) has(n int) bool { return s.least <= n && n <= s.most }

// shape is what a record of a kind may have: N, and how many Bytes.
type shape struct{ n, long span }

// shapes are those of all kinds. Any two bytes are a set, as there are no more bits in them than labels.
func shapes() map[api.RecordKind]shape {
	set := span{setBytes, setBytes}
	return map[api.RecordKind]shape{
		api.RecordImage:   {n: span{0, mostAddr}, long: span{0, mostImage}},
		api.RecordDisk:    {n: span{0, mostSector}, long: span{0, api.PageBytes}},
		api.RecordConsole: {long: span{0, api.MaxWaits}},
		api.RecordNet:     {long: span{0, api.MaxPacket}},
		api.RecordSource:  {n: span{int(api.SourceImage), int(api.SourceNet)}, long: set},
		api.RecordSink:    {n: span{int(api.SinkConsole), int(api.SinkPc)}, long: set},
		api.RecordStrict:  {long: set},
		api.RecordEnd:     {},
	}
}

// order is what came ahead of a record: when, and whether it was the end.
type order struct {
	shapes map[api.RecordKind]shape
	at     int64
	ended  bool
}

// next gives up a record that may not stand behind the others.
func (o *order) next(r api.Record) {
	shape, is := o.shapes[r.Kind]
	must(is && !o.ended, api.ErrRecord)
	must(o.at <= r.At && r.At <= mostStep, api.ErrRecord)
	must(shape.n.has(r.N) && shape.long.has(len(r.Bytes)), api.ErrRecord)
	o.at, o.ended = r.At, r.Kind == api.RecordEnd
}

// check gives up a log that may not be.
func check(l api.Log) {
	must(mayBegin(l), api.ErrRecord)
	must(l.Whole || l.End == 0, api.ErrRecord)
	before := order{shapes: shapes()}
	for r := range rows(l) {
		before.next(r)
	}
	must(before.ended == l.Whole, api.ErrRecord) // the end is none of the log's own records
}

// mayBegin tells whether a log's form and bound may be.
func mayBegin(l api.Log) bool {
	frames, sectors, sets := span{1, api.MaxFrames}, span{1, api.MaxSectors}, span{1, mostSets}
	return frames.has(l.Form.Frames) && sectors.has(l.Form.Sectors) && sets.has(l.Most)
}
