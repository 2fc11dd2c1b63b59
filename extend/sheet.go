package extend

import (
	"math"
	"slices"

	"torrent/api"
	"torrent/bencode"
)

// The keys of a sheet.
const (
	keyKind  = "msg_type"
	keyPart  = "piece"
	keyTotal = "total_size"
)

// sheetDict is the dictionary of a sheet, if that is good.
func sheetDict(s api.Sheet) (api.Value, bool) {
	if !isGoodSheet(s) {
		return api.Value{}, false
	}
	return dictionary(nil,
		numberIf(true, keyKind, s.Kind),
		numberIf(true, keyPart, s.Part),
		numberIf(s.Kind == api.SheetData, keyTotal, s.Total)), true
}

func isGoodSheet(s api.Sheet) bool {
	if s.Part < 0 {
		return false
	}
	switch s.Kind {
	case api.SheetAsk, api.SheetNo:
		return s.Total == 0 && len(s.Data) == 0
	case api.SheetData:
		return s.Total >= 1 && s.Total <= api.MaxText
	}
	return false
}

// readSheet reads a sheet, or gives up.
func readSheet(b []byte) api.Sheet {
	v, n, e := bencode.Prefix(b)
	r := opened(v, e)
	rest := b[n:]
	s := api.Sheet{Kind: r.number(keyKind, math.MinInt, math.MaxInt)}
	if s.Kind < api.SheetAsk || s.Kind > api.SheetNo {
		giveUp(api.ErrExtKind)
	}
	s.Part = r.number(keyPart, 0, math.MaxInt)
	if s.Kind == api.SheetData {
		s.Total = r.number(keyTotal, 1, api.MaxText)
		s.Data, rest = slices.Clone(rest), nil
	}
	if len(r.left) > 0 || len(rest) > 0 {
		giveUp(api.ErrExtForm)
	}
	return s
}
