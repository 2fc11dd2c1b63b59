package magnet_test

import (
	"fmt"
	"math/big"
	"regexp"
	"slices"
	"strconv"
	"strings"

	"torrent/api"
)

// What follows is the chapter's words, as plain as can be: a part is held against all parts ahead of it, and numbers against what they may be, one by one.

const bareBytes = "ABCDEFGHIJKLMNOPQRSTUVWXYZabcdefghijklmnopqrstuvwxyz0123456789-._~!$'()*,;:@/?"

func plainBare(c byte) bool { return strings.Contains(bareBytes, string(rune(c))) && c < 128 }

// plainSigns tells how each byte is written.
var plainSigns = func() (signs [256]string) {
	for c := range signs {
		signs[c] = fmt.Sprintf("%%%02X", c)
		if plainBare(byte(c)) {
			signs[c] = string(rune(c))
		}
	}
	return signs
}()

func plainEscape(s string) string {
	var text strings.Builder
	for _, c := range []byte(s) {
		text.WriteString(plainSigns[c])
	}
	return text.String()
}

// plainFault is the first place at which a text isn't written with percent signs; -1, if there is none.
func plainFault(s string) int {
	for i := range []byte(s) {
		if !plainBare(s[i]) && !slices.Contains(plainSigns[:], s[i:min(i+3, len(s))]) {
			return i
		}
	}
	return -1
}

var sign = regexp.MustCompile("%[0-9A-F][0-9A-F]")

func plainUnescape(s string) (string, api.Errno) {
	text := sign.ReplaceAllStringFunc(s, func(x string) string {
		n, _ := strconv.ParseUint(x[1:], 16, 8)
		return string([]byte{byte(n)})
	})
	if plainEscape(text) != s {
		return "", api.ErrLinkSign
	}
	return text, api.OK
}

// plainText is the text of a link, however long.
func plainText(l api.Link) string {
	s := "magnet:?xt=urn:btmh:1220" + fmt.Sprintf("%x", l.Info[:])
	if l.Name != "" {
		s += "&dn=" + plainEscape(l.Name)
	}
	for i, r := range l.Only {
		s += []string{"&so=", ","}[min(i, 1)] + fmt.Sprint(r.From)
		if r.Len > 1 {
			s += fmt.Sprint("-", r.From+r.Len-1)
		}
	}
	for _, t := range l.Trackers {
		s += "&tr=" + plainEscape(t)
	}
	for _, p := range l.Peers {
		s += "&x.pe=" + plainEscape(p)
	}
	for _, p := range l.More {
		s += "&" + plainEscape(p.Key) + "=" + plainEscape(p.Val.Str)
	}
	return s
}

// plainHas goes by whole numbers without bounds.
func plainHas(r api.Range, place int) bool {
	from, at, length := big.NewInt(int64(r.From)), big.NewInt(int64(place)), big.NewInt(int64(r.Len))
	return from.Cmp(at) <= 0 && at.Cmp(length.Add(length, from)) < 0
}

func plainWanted(l api.Link, file int) bool {
	if file < 0 {
		return false
	}
	for _, r := range l.Only {
		if plainHas(r, file) {
			return true
		}
	}
	return len(l.Only) == 0
}

func plainForm(l api.Link) bool {
	for _, s := range slices.Concat(l.Trackers, l.Peers) {
		if s == "" {
			return false
		}
	}
	for _, r := range l.Only {
		end := new(big.Int).Add(big.NewInt(int64(r.From)), big.NewInt(int64(r.Len)))
		if r.From < 0 || r.Len < 1 || end.Cmp(big.NewInt(4096)) > 0 {
			return false
		}
	}
	for _, p := range l.More {
		if p.Key == "" || p.Val.Kind != 2 || p.Val.Int != 0 || len(p.Val.List) != 0 || len(p.Val.Dict) != 0 {
			return false
		}
	}
	return true
}

func plainApart(runs []api.Range) bool {
	for i, r := range runs {
		if i == 0 {
			continue
		}
		last := runs[i-1].From + runs[i-1].Len - 1
		if r.From < last+2 {
			return false
		}
	}
	return true
}

func plainCheck(l api.Link) api.Errno {
	if !plainForm(l) {
		return api.ErrLinkForm
	}
	if !plainApart(l.Only) {
		return api.ErrLinkOrder
	}
	for i := range l.More {
		if i > 0 && l.More[i].Key < l.More[i-1].Key {
			return api.ErrLinkOrder
		}
	}
	seen := map[string]int{}
	for _, t := range l.Trackers {
		seen["tracker "+t]++
	}
	for _, p := range l.Peers {
		seen["peer "+p]++
	}
	for _, p := range l.More {
		seen["key "+p.Key]++
		if isFive(p.Key) {
			return api.ErrLinkTwice
		}
	}
	for _, n := range seen {
		if n > 1 {
			return api.ErrLinkTwice
		}
	}
	if len(plainText(l)) > 4096 {
		return api.ErrLinkLong
	}
	return api.OK
}

// plainPlaces has the place of each number that may be one.
var plainPlaces = func() map[string]int {
	places := map[string]int{}
	for i := range 4096 {
		places[fmt.Sprint(i)] = i
	}
	return places
}()

func plainRuns(value string) ([]api.Range, api.Errno) {
	var all []api.Range
	for _, text := range strings.Split(value, ",") {
		ends := strings.Split(text, "-")
		first, ok := plainPlaces[ends[0]]
		last, found := plainPlaces[ends[len(ends)-1]]
		if !ok || !found || len(ends) > 2 || len(ends) == 2 && last <= first {
			return nil, api.ErrLinkForm
		}
		all = append(all, run(first, last-first+1))
	}
	if !plainApart(all) {
		return nil, api.ErrLinkOrder
	}
	return all, api.OK
}

type plainPart struct{ key, value string }

func plainKind(key string) int {
	if i := slices.Index(texts("xt", "dn", "so", "tr", "x.pe"), key); i >= 0 {
		return i
	}
	return 5
}

var hashForm = regexp.MustCompile("^urn:btmh:1220[0-9a-f]{64}$")

// plainPartFault is what is wrong with a part behind others.
func plainPartFault(before []plainPart, p plainPart) api.Errno {
	if len(before) == 0 && p.key != "xt" {
		return api.ErrLinkHash
	}
	if p.key == "xt" {
		switch {
		case strings.HasPrefix(p.value, "urn:btih:"):
			return api.ErrLinkOld
		case len(before) > 0:
			return api.ErrLinkTwice
		case !hashForm.MatchString(p.value):
			return api.ErrLinkHash
		}
		return api.OK
	}
	ahead := before[len(before)-1]
	if plainKind(ahead.key) > plainKind(p.key) {
		return api.ErrLinkOrder
	}
	if p.key == "dn" || p.key == "so" || plainKind(p.key) == 5 {
		if ahead.key == p.key {
			return api.ErrLinkTwice
		}
	} else if slices.Contains(before, p) {
		return api.ErrLinkTwice
	}
	if plainKind(p.key) == 5 && plainKind(ahead.key) == 5 && ahead.key > p.key {
		return api.ErrLinkOrder
	}
	if (p.key == "dn" || p.key == "tr" || p.key == "x.pe") && p.value == "" {
		return api.ErrLinkForm
	}
	if p.key == "so" {
		_, e := plainRuns(p.value)
		return e
	}
	return api.OK
}

func plainParse(s string) (api.Link, int, api.Errno) {
	if len(s) > 4096 {
		return api.Link{}, 0, api.ErrLinkLong
	}
	if !strings.HasPrefix(s, "magnet:?") {
		return api.Link{}, 0, api.ErrLinkScheme
	}
	at := 8
	var before []plainPart
	for _, part := range strings.Split(s[8:], "&") {
		equal := strings.Index(part, "=")
		if equal < 1 {
			return api.Link{}, at, api.ErrLinkForm
		}
		if n := plainFault(part[:equal]); n >= 0 {
			return api.Link{}, at + n, api.ErrLinkSign
		}
		if n := plainFault(part[equal+1:]); n >= 0 {
			return api.Link{}, at + equal + 1 + n, api.ErrLinkSign
		}
		key, _ := plainUnescape(part[:equal])
		value, _ := plainUnescape(part[equal+1:])
		if e := plainPartFault(before, plainPart{key, value}); e != api.OK {
			return api.Link{}, at, e
		}
		before = append(before, plainPart{key, value})
		at += len(part) + 1
	}
	return plainLink(before), 0, api.OK
}

// plainLink is the link that parts without a fault tell.
func plainLink(parts []plainPart) api.Link {
	l := api.Link{}
	for _, p := range parts {
		switch p.key {
		case "xt":
			n, _ := new(big.Int).SetString(p.value[13:], 16)
			n.FillBytes(l.Info[:])
		case "dn":
			l.Name = p.value
		case "so":
			l.Only, _ = plainRuns(p.value)
		case "tr":
			l.Trackers = append(l.Trackers, p.value)
		case "x.pe":
			l.Peers = append(l.Peers, p.value)
		default:
			l.More = append(l.More, pair(p.key, p.value))
		}
	}
	return l
}
