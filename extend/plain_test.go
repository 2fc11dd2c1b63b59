package extend_test

import (
	"fmt"
	"slices"
	"sort"
	"strings"

	"torrent/api"
	"torrent/bencode"
)

// What follows is the chapter's words, as plain as can be: texts are written out, not built by way of dictionaries, and what is read is good if its text, written out again, is what was read.

// textOf is the text of a valid value.
func textOf(v api.Value) string {
	switch v.Kind {
	case api.KindInt:
		return fmt.Sprintf("i%de", v.Int)
	case api.KindStr:
		return fmt.Sprintf("%d:%s", len(v.Str), v.Str)
	}
	s := map[int]string{api.KindList: "l", api.KindDict: "d"}[v.Kind]
	for _, x := range v.List {
		s += textOf(x)
	}
	for _, p := range v.Dict {
		s += textOf(str(p.Key)) + textOf(p.Val)
	}
	return s + "e"
}

// plainWishText is the text of a good wish.
func plainWishText(w api.Wish) string {
	m := "d"
	for _, n := range w.Names {
		m += fmt.Sprintf("%d:%si%de", len(n.Name), n.Name, n.ID)
	}
	texts := map[string]string{"m": m + "e"}
	if w.Size != 0 {
		texts["metadata_size"] = fmt.Sprintf("i%de", w.Size)
	}
	if w.Queue != 0 {
		texts["reqq"] = fmt.Sprintf("i%de", w.Queue)
	}
	if w.Agent != "" {
		texts["v"] = fmt.Sprintf("%d:%s", len(w.Agent), w.Agent)
	}
	for _, p := range w.More {
		texts[p.Key] = textOf(p.Val)
	}
	keys := []string{}
	for k := range texts {
		keys = append(keys, k)
	}
	sort.Strings(keys)
	s := "d"
	for _, k := range keys {
		s += fmt.Sprintf("%d:%s", len(k), k) + texts[k]
	}
	return s + "e"
}

// plainGood goes by the list of what makes a wish good.
func plainGood(w api.Wish) bool {
	for i, n := range w.Names {
		if i > 0 && n.Name <= w.Names[i-1].Name || n.ID < 0 || n.ID > 255 {
			return false
		}
	}
	if w.Size < 0 || w.Size > 1048576 || w.Queue < 0 {
		return false
	}
	for i, p := range w.More {
		if i > 0 && p.Key <= w.More[i-1].Key || slices.Contains([]string{"m", "metadata_size", "reqq", "v"}, p.Key) {
			return false
		}
		// A list around the value stands for the dictionary of the wish.
		if bencode.Valid(list(p.Val)) != api.OK {
			return false
		}
	}
	return true
}

func plainEncodeWish(w api.Wish) (string, api.Errno) {
	if !plainGood(w) {
		return "", api.ErrExtForm
	}
	s := plainWishText(w)
	if len(s) > maxPayload {
		return "", api.ErrExtSize
	}
	return s, api.OK
}

func plainDecodeWish(b []byte) (api.Wish, api.Errno) {
	if len(b) > maxPayload {
		return api.Wish{}, api.ErrExtSize
	}
	v, _, e := bencode.Decode(b)
	if e != api.OK {
		return api.Wish{}, e
	}
	w := api.Wish{}
	for _, p := range v.Dict {
		switch p.Key {
		case "m":
			for _, q := range p.Val.Dict {
				w.Names = append(w.Names, named(q.Key, q.Val.Int))
			}
		case "metadata_size":
			w.Size = p.Val.Int
		case "reqq":
			w.Queue = p.Val.Int
		case "v":
			w.Agent = p.Val.Str
		default:
			w.More = append(w.More, p)
		}
	}
	if !plainGood(w) || plainWishText(w) != string(b) {
		return api.Wish{}, api.ErrExtForm
	}
	return w, api.OK
}

// plainMerge lays both wishes into maps, the later one last.
func plainMerge(old, later api.Wish) api.Wish {
	if !plainGood(old) || !plainGood(later) {
		return api.Wish{}
	}
	ids, vals := map[string]int{}, map[string]api.Value{}
	w := api.Wish{}
	for _, from := range []api.Wish{old, later} {
		for _, n := range from.Names {
			ids[n.Name] = n.ID
		}
		for _, p := range from.More {
			vals[p.Key] = p.Val
		}
		if from.Size != 0 {
			w.Size = from.Size
		}
		if from.Queue != 0 {
			w.Queue = from.Queue
		}
		if from.Agent != "" {
			w.Agent = from.Agent
		}
	}
	for name, id := range ids {
		w.Names = append(w.Names, named(name, id))
	}
	for key, val := range vals {
		w.More = append(w.More, pair(key, val))
	}
	sort.Slice(w.Names, func(i, j int) bool { return w.Names[i].Name < w.Names[j].Name })
	sort.Slice(w.More, func(i, j int) bool { return w.More[i].Key < w.More[j].Key })
	return w
}

func plainGoodSheet(s api.Sheet) bool {
	if s.Part < 0 {
		return false
	}
	if s.Kind == 0 || s.Kind == 2 {
		return s.Total == 0 && len(s.Data) == 0
	}
	return s.Kind == 1 && 1 <= s.Total && s.Total <= 1048576
}

// plainSheetText is the text of a good sheet.
func plainSheetText(s api.Sheet) string {
	if s.Kind == 1 {
		return fmt.Sprintf("d8:msg_typei1e5:piecei%de10:total_sizei%dee%s", s.Part, s.Total, s.Data)
	}
	return fmt.Sprintf("d8:msg_typei%de5:piecei%dee", s.Kind, s.Part)
}

func plainEncodeSheet(s api.Sheet) (string, api.Errno) {
	if !plainGoodSheet(s) {
		return "", api.ErrExtForm
	}
	t := plainSheetText(s)
	if len(t) > maxPayload {
		return "", api.ErrExtSize
	}
	return t, api.OK
}

func plainDecodeSheet(b []byte) (api.Sheet, api.Errno) {
	if len(b) > maxPayload {
		return api.Sheet{}, api.ErrExtSize
	}
	v, n, e := bencode.Prefix(b)
	if e != api.OK {
		return api.Sheet{}, e
	}
	fields := map[string]api.Value{}
	for _, p := range v.Dict {
		fields[p.Key] = p.Val
	}
	if fields["msg_type"].Kind != api.KindInt {
		return api.Sheet{}, api.ErrExtForm
	}
	s := api.Sheet{Kind: fields["msg_type"].Int, Part: fields["piece"].Int, Total: fields["total_size"].Int, Data: b[n:]}
	if s.Kind < 0 || s.Kind > 2 {
		return api.Sheet{}, api.ErrExtKind
	}
	if !plainGoodSheet(s) || plainSheetText(s) != string(b) {
		return api.Sheet{}, api.ErrExtForm
	}
	return s, api.OK
}

// tokens are parts of which texts of wishes and sheets, and such as are nearly so, are made.
func wishTokens() []string {
	return strings.Fields("d e 1:m de 1:v 4:reqq 13:metadata_size i0e i1e i256e 0: 1:a le")
}

func sheetTokens() []string {
	return strings.Fields("d e 8:msg_type 5:piece 10:total_size i0e i1e i2e i3e i-1e 1:a le")
}
