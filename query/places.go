package query

import (
	"cmp"
	"strconv"

	"pomander/api"
	"pomander/flow"
)

// row is how places of a Kind are told: by its name, and by N where the Kind has several of them.
type row struct {
	name    string
	several bool
}

// names has a row for each Kind.
var names = [...]row{
	api.PlaceNone:   {"none", false},
	api.PlaceReg:    {"reg", true},
	api.PlacePc:     {"pc", false},
	api.PlaceEpc:    {"epc", false},
	api.PlaceCause:  {"cause", false},
	api.PlaceVec:    {"vec", false},
	api.PlaceTable:  {"table", false},
	api.PlaceMode:   {"mode", false},
	api.PlaceMask:   {"mask", false},
	api.PlaceAlarm:  {"alarm", false},
	api.PlaceMem:    {"mem", true},
	api.PlaceTlb:    {"tlb", true},
	api.PlaceSector: {"sector", true},
	api.PlaceIn:     {"in", true},
	api.PlaceOut:    {"out", true},
	api.PlacePacket: {"packet", true},
	api.PlaceSent:   {"sent", true},
	api.PlaceAsk:    {"ask", true},
}

// Who tells which places have a label. Decides of no touches tells just whether there is a flow; All tells places in order.
func Who(f *flow.Flow, set uint32) ([]api.Place, api.Errno) {
	var who []api.Place
	_, refusal := f.Decides()
	if refusal != api.OK {
		goto refused
	}
	if set>>api.MaxLabels != 0 {
		refusal = api.ErrArg
		goto refused
	}
	for place, has := range f.All() {
		if has&set != 0 {
			who = append(who, place)
		}
	}
	return who, api.OK
refused:
	return nil, refusal
}

// Text tells a place as a text.
func Text(p api.Place) string {
	if p.Kind < api.PlaceNone || int(p.Kind) >= len(names) {
		return "?"
	}
	of := names[p.Kind]
	if !of.several {
		return of.name
	}
	return of.name + " " + strconv.Itoa(p.N)
}

// byKindThenN is the order of places.
func byKindThenN(a, b api.Place) int {
	return cmp.Or(cmp.Compare(a.Kind, b.Kind), cmp.Compare(a.N, b.N))
}
