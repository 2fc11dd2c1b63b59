package magnet_test

import (
	"strings"
	"testing"

	"torrent/api"
	"torrent/magnet"
)

// The chapter's table of texts.
func TestChapterTexts(t *testing.T) {
	n := len(base)
	upper := strings.Replace(base, "f8", "F8", 1)
	for _, c := range []struct {
		s  string
		at int
		e  api.Errno
	}{
		{base, 0, api.OK},
		{base + "&dn=a%20b&so=0,2,4-6&tr=http://t/%3Fa&x.pe=1.2.3.4:5&zz=", n + len("&dn=a%20b&so=0,2,4-6&tr=http://t/"), api.ErrLinkSign},
		{"MAGNET:?xt=urn:btmh:1220" + digitsOfInfo, 0, api.ErrLinkScheme}, {"magnet:xt=urn:btmh:1220" + digitsOfInfo, 0, api.ErrLinkScheme}, {"", 0, api.ErrLinkScheme},
		{"magnet:?", 8, api.ErrLinkForm}, {"magnet:?dn=x", 8, api.ErrLinkHash}, {"magnet:?xt=urn:btih:" + digitsOfInfo[:40], 8, api.ErrLinkOld},
		{upper, 8, api.ErrLinkHash}, {base[:n-1], 8, api.ErrLinkHash}, {base + "0", 8, api.ErrLinkHash},
		{base + "&dn=a&dn=b", n + 6, api.ErrLinkTwice}, {base + "&so=1&dn=b", n + 6, api.ErrLinkOrder}, {base + "&" + base[8:], n + 1, api.ErrLinkTwice},
		{base + "&dn=", n + 1, api.ErrLinkForm}, {base + "&so=", n + 1, api.ErrLinkForm}, {base + "&so=01", n + 1, api.ErrLinkForm}, {base + "&so=3-3", n + 1, api.ErrLinkForm}, {base + "&so=4096", n + 1, api.ErrLinkForm},
		{base + "&so=3,3", n + 1, api.ErrLinkOrder}, {base + "&so=3,4", n + 1, api.ErrLinkOrder}, {base + "&so=5,1", n + 1, api.ErrLinkOrder}, {base + "&so=1,3-4", 0, api.OK},
		{base + "&b=1&a=2", n + 5, api.ErrLinkOrder}, {base + "&a=1&a=2", n + 5, api.ErrLinkTwice}, {base + "&tr=x&tr=x", n + 6, api.ErrLinkTwice}, {base + "&tr=x&tr=y", 0, api.OK},
		{base + "&a=b=c", n + 4, api.ErrLinkSign}, {base + "&a=%zz", n + 3, api.ErrLinkSign}, {base + "&a=%", n + 3, api.ErrLinkSign}, {base + "&a=%2f", n + 3, api.ErrLinkSign}, {base + "&a=%41", n + 3, api.ErrLinkSign}, {base + "&a=b+c", n + 4, api.ErrLinkSign},
	} {
		l, at, e := magnet.Parse(c.s)
		if at != c.at || e != c.e || e != api.OK && show(l) != noLink || e == api.OK && l.Info != info {
			t.Errorf("Parse(%q) = %s, %d, %d, want %d, %d", c.s, show(l), at, e, c.at, c.e)
		}
	}
	l, at, e := magnet.Parse(base + "&dn=a%20b&so=0,2,4-6&tr=http://t/?a&x.pe=1.2.3.4:5&zz=")
	want := api.Link{Info: info, Name: "a b", Only: runs(run(0, 1), run(2, 1), run(4, 3)), Trackers: texts("http://t/?a"), Peers: texts("1.2.3.4:5"), More: pairs(pair("zz", ""))}
	if show(l) != show(want) || at != 0 || e != api.OK {
		t.Errorf("%s, %d, %d", show(l), at, e)
	}
}

// The chapter's other examples.
func TestChapterCalls(t *testing.T) {
	if s := magnet.Escape("a b/ü"); s != "a%20b/%C3%BC" {
		t.Errorf("Escape: %q", s)
	}
	if s, e := magnet.Unescape("a%20b/%C3%BC"); s != "a b/ü" || e != api.OK {
		t.Errorf("Unescape: %q, %d", s, e)
	}
	if s := magnet.Escape("100%"); s != "100%25" {
		t.Errorf("Escape: %q", s)
	}
	for _, s := range []string{"%2F", "%e4", "%4", "a&b"} {
		if u, e := magnet.Unescape(s); u != "" || e != api.ErrLinkSign {
			t.Errorf("Unescape(%q) = %q, %d", s, u, e)
		}
	}
	for _, c := range []struct {
		l api.Link
		e api.Errno
	}{
		{api.Link{Only: runs(run(0, 2), run(2, 1))}, api.ErrLinkOrder}, {api.Link{Only: runs(run(4095, 2))}, api.ErrLinkForm}, {api.Link{More: pairs(pair("dn", "x"))}, api.ErrLinkTwice},
	} {
		if e := magnet.Check(c.l); e != c.e {
			t.Errorf("Check(%s) = %d, want %d", show(c.l), e, c.e)
		}
	}
	for file, want := range map[int]bool{6: true, 7: false, -1: false} {
		if magnet.Wanted(api.Link{Only: runs(run(4, 3))}, file) != want {
			t.Errorf("Wanted of %d: %v", file, !want)
		}
	}
}
