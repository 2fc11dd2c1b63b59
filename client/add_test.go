package client_test

import (
	"bytes"
	"math"
	"slices"
	"strings"
	"testing"

	"torrent/api"
	"torrent/client"
	"torrent/digest"
	"torrent/disk"
)

// P24.1: a scale that is good, and ones that are not.
func TestNew(t *testing.T) {
	for _, sc := range []api.Scale{{}, {Block: 64}, {Block: 64, Width: 33}, {Block: 64, Width: -1}, {Block: 32, Width: 32}, {Block: 96, Width: 32}, {Block: 32768, Width: 32}, {Block: -64, Width: 32}, {Block: math.MinInt, Width: math.MaxInt}} {
		if c, e := client.New(sc, us); c != nil || e != api.ErrScale {
			t.Errorf("New(%v) = %v, %d", sc, c, e)
		}
	}
	for _, sc := range []api.Scale{own, {Block: 64, Width: 1}, {Block: 16384, Width: 32}} {
		if l := none(t, sc).Torrents(); len(l) != 0 {
			t.Errorf("a new client has %v", l)
		}
	}
}

// adds is what an addition answers.
type adds struct {
	n    int
	acts []api.Act
	e    api.Errno
}

func addText(c *client.Client, text []byte, d *disk.Disk) adds {
	n, l, e := c.AddText(text, d)
	return adds{n, l, e}
}

func addLink(c *client.Client, link string, d *disk.Disk) adds {
	n, e := c.AddLink(link, d)
	return adds{n, nil, e}
}

// refused fails the test unless an addition was refused for that reason.
func refused(t *testing.T, what string, a adds, want api.Errno) {
	t.Helper()
	if a.n != 0 || len(a.acts) != 0 || a.e != want {
		t.Errorf("%s = %d, %v, %d, want %d", what, a.n, a.acts, a.e, want)
	}
}

func added(t *testing.T, what string, a adds, n int, l []api.Act) {
	t.Helper()
	if a.n != n || a.e != api.OK {
		t.Fatalf("%s = %d, %d, want %d", what, a.n, a.e, n)
	}
	acts(t, what, a.acts, l)
}

// lists fails the test unless the client has these torrents.
func lists(t *testing.T, what string, c *client.Client, want ...int) {
	t.Helper()
	if l := c.Torrents(); !slices.Equal(l, want) {
		t.Errorf("%s: Torrents = %v, want %v", what, l, want)
	}
}

// untouched fails the test unless a disk is as it was.
func untouched(t *testing.T, what string, d, was *disk.Disk) {
	t.Helper()
	if !bytes.Equal(d.Image(), was.Image()) || !bytes.Equal(d.Durable(), was.Durable()) || !slices.Equal(d.Pending(), was.Pending()) {
		t.Errorf("%s: the disk was written to", what)
	}
}

// P24.2, P24.3: what can't be added, and that nothing is added then.
func TestRefused(t *testing.T) {
	x, y := one(t), made(t, "two", some(900))
	c := none(t, own)
	foreign := y.filled(t)
	good := x.disk(t)
	for what, want := range map[string]api.Errno{
		"": api.ErrTextEnd, "x": api.ErrTextByte, "de": api.ErrMetaShape, "d4:infod6:pieces0:e12:piece layersdee": api.ErrMetaHybrid,
		string(x.text) + "x": api.ErrTextTrail, strings.Replace(string(x.text), "i2e", "i1e", 1): api.ErrMetaVersion,
	} {
		refused(t, "AddText of "+what, addText(c, []byte(what), good), want)
	}
	refused(t, "AddText without a disk", addText(c, x.text, nil), api.ErrStoreDisk)
	refused(t, "AddText with a small disk", addText(c, x.text, sectors(t, good.Size()-1)), api.ErrStoreDisk)
	refused(t, "AddText with a disk of another torrent", addText(c, x.text, foreign), api.ErrStoreOther)
	for what, want := range map[string]api.Errno{
		"": api.ErrLinkScheme, "magnet:?": api.ErrLinkForm, "magnet:?xt=urn:btih:": api.ErrLinkOld, x.link("a") + "&dn=b": api.ErrLinkTwice,
		x.link("") + "&a=%41": api.ErrLinkSign, x.link("")[:80]: api.ErrLinkHash, x.link("") + strings.Repeat("x", 4096): api.ErrLinkLong,
	} {
		refused(t, "AddLink of "+what, addLink(c, what, good), want)
	}
	lists(t, "refused", c)
	untouched(t, "refused", good, x.disk(t))
	untouched(t, "refused", foreign, y.filled(t))
	added(t, "the first that is added", addLink(c, y.link(""), good), 0, nil)
}

// P24.2, P24.3: of several errors the one that is named first.
func TestRefusedInOrder(t *testing.T) {
	x, y := one(t), made(t, "two", some(30))
	c := none(t, own)
	added(t, "AddText", addText(c, x.text, x.disk(t)), 0, []api.Act{{Kind: api.ActFile, File: 2}})
	added(t, "AddLink", addLink(c, y.link(""), y.disk(t)), 1, nil)
	for _, z := range []*torrent{x, y} {
		refused(t, "AddText of one that is there, without a disk", addText(c, z.text, nil), api.ErrPresent)
		refused(t, "AddText of one that is there, by its bare text", addText(c, z.bare, sectors(t, 1)), api.ErrPresent)
		refused(t, "AddLink of one that is there", addLink(c, z.link("other"), z.disk(t)), api.ErrPresent)
		refused(t, "AddLink of one that is there, without a disk", addLink(c, z.link(""), nil), api.ErrNil)
	}
	refused(t, "AddLink of no link, without a disk", addLink(c, "", nil), api.ErrNil)
	for i := range 14 {
		z := made(t, "more"+num(i), some(10))
		added(t, "AddLink", addLink(c, z.link(""), z.disk(t)), 2+i, nil)
	}
	z := made(t, "too many", some(10))
	refused(t, "AddText with 16 torrents", addText(c, z.text, z.disk(t)), api.ErrSlots)
	refused(t, "AddText of no text with 16 torrents", addText(c, nil, nil), api.ErrSlots)
	refused(t, "AddText of one that is there with 16 torrents", addText(c, x.text, nil), api.ErrSlots)
	refused(t, "AddLink with 16 torrents", addLink(c, z.link(""), z.disk(t)), api.ErrSlots)
	refused(t, "AddLink of no link with 16 torrents", addLink(c, "", z.disk(t)), api.ErrSlots)
	refused(t, "AddLink without a disk with 16 torrents", addLink(c, "", nil), api.ErrNil)
	wants(t, "Remove", c.Remove(3), api.OK)
	added(t, "AddText when there is room again", addText(c, z.text, z.disk(t)), 16, nil)
	lists(t, "full", c, 0, 1, 2, 4, 5, 6, 7, 8, 9, 10, 11, 12, 13, 14, 15, 16)
	refused(t, "AddLink with 16 torrents", addLink(c, made(t, "again", some(10)).link(""), z.disk(t)), api.ErrSlots)
}

// P24.2: what is no metainfo has no infohash, not the one of zeros either.
func TestRefusedZeros(t *testing.T) {
	c := none(t, own)
	added(t, "AddLink", addLink(c, (&torrent{}).link(""), sectors(t, 9)), 0, nil)
	refused(t, "AddText of no text", addText(c, []byte("de"), sectors(t, 9)), api.ErrMetaShape)
	refused(t, "AddLink again", addLink(c, (&torrent{}).link(""), sectors(t, 9)), api.ErrPresent)
}

// P24.2: what is added by its metainfo is running at once, and tells what is on its disk.
func TestAddText(t *testing.T) {
	x := one(t)
	for _, had := range [][]int{nil, {1}, {0, 1}, {2}, {0, 1, 2}} {
		d := x.filled(t, had...)
		_, want := x.session(t, x.text, d)
		s, l := x.byText(t, d)
		acts(t, "the start", l, want)
		s.phase("AddText", api.PhaseRunning, api.OK)
		if len(l) < len(had)+1 {
			t.Errorf("only %d acts", len(l))
		}
	}
}

// P24.2: at another scale the same text has another infohash, or none.
func TestAddTextAtScales(t *testing.T) {
	x := one(t)
	c := none(t, api.Scale{Block: 128, Width: 32})
	refused(t, "pieces of half a block", addText(c, x.text, x.disk(t)), api.ErrMetaPiece)
	tiny := api.Scale{Block: 64, Width: 1}
	y, _ := build(tiny, "t", 64, []byte("abc"))
	c = none(t, tiny)
	added(t, "AddText", addText(c, y.text, y.disk(t)), 0, nil)
	s, _ := c.State(0)
	if h, _ := digest.Hash(tiny, y.dict); s.Info != h || h[1] != 0 {
		t.Errorf("Info = %v, want %v", s.Info, h)
	}
}

// P24.3: what is added by a link waits, and nothing is written to its disk, whatever lies there.
func TestAddLink(t *testing.T) {
	x := one(t)
	for _, d := range []*disk.Disk{x.disk(t), sectors(t, 1), made(t, "other", some(9)).filled(t, 0), x.filled(t, 0)} {
		was := d.Copy()
		s := x.byLink(t, d)
		s.phase("AddLink", api.PhaseWaiting, api.OK)
		s.offers(4)
		s.given(4)
		acts(t, "a lone tick", s.ticks(1))
		wants(t, "Sync", s.c.Sync(0), api.ErrWaiting)
		untouched(t, "waiting", d, was)
	}
	full := "magnet:?xt=urn:btmh:1220" + digest.Hex(x.info[:]) + "&dn=n%20m&so=0,2&tr=http://t/&x.pe=1.2.3.4:5&zz=1"
	c := none(t, own)
	added(t, "a link with all kinds of parameters", addLink(c, full, x.disk(t)), 0, nil)
	if s, e := c.State(0); e != api.OK || s.Name != "n m" || s.Info != x.info {
		t.Errorf("State = %v, %d", s, e)
	}
}

// P24.3: an infohash that no text can have at the scale is waited for all the same.
func TestAddLinkBeyondTheWidth(t *testing.T) {
	x := lone(own, []byte("de"))
	c := none(t, api.Scale{Block: 64, Width: 2})
	added(t, "AddLink", addLink(c, x.link(""), sectors(t, 9)), 0, nil)
	short := x.info
	clear(short[2:])
	added(t, "AddLink of what it is cut to", addLink(c, (&torrent{info: short}).link(""), sectors(t, 9)), 1, nil)
}

// P24.4: a torrent that is gone, with its connections; its number is not used again, its disk stays.
func TestRemove(t *testing.T) {
	x, y := one(t), made(t, "two", some(30))
	c := none(t, own)
	d := x.filled(t, 1)
	was := d.Copy()
	added(t, "AddText", addText(c, x.text, d), 0, []api.Act{{Kind: api.ActPiece, Piece: 1}, {Kind: api.ActFile, File: 2}})
	added(t, "AddLink", addLink(c, y.link(""), y.disk(t)), 1, nil)
	acts(t, "Join", c.Join(0, 3), sends(3, x.ours()))
	acts(t, "Join", c.Join(1, 3), sends(3, y.ours()))
	for _, n := range []int{2, -1, math.MinInt, math.MaxInt} {
		wants(t, "Remove of none", c.Remove(n), api.ErrTorrent)
	}
	lists(t, "nothing is gone", c, 0, 1)
	wants(t, "Remove", c.Remove(0), api.OK)
	wants(t, "Remove again", c.Remove(0), api.ErrTorrent)
	untouched(t, "Remove", d, was)
	lists(t, "one is gone", c, 1)
	if s, e := c.State(1); e != api.OK || !slices.Equal(s.Peers, []int{3}) {
		t.Errorf("the other one: %v, %d", s, e)
	}
	added(t, "AddText", addText(c, x.text, d), 2, []api.Act{{Kind: api.ActPiece, Piece: 1}, {Kind: api.ActFile, File: 2}})
	if s, e := c.State(2); e != api.OK || len(s.Peers) != 0 {
		t.Errorf("added again: %v, %d", s, e)
	}
	acts(t, "Join", c.Join(2, 3), sends(3, x.ours()))
	wants(t, "Remove", c.Remove(2), api.OK)
	wants(t, "Remove", c.Remove(1), api.OK)
	lists(t, "all are gone", c)
	added(t, "AddLink", addLink(c, y.link(""), y.disk(t)), 3, nil)
	wants(t, "Remove of a waiting one", c.Remove(3), api.OK)
}

// P24.4: a removed one's number has no torrent, nor has any other that no torrent has: nothing comes of it.
func TestNoSuchTorrent(t *testing.T) {
	x := one(t)
	s := x.running(t)
	s.meets(1)
	for _, n := range []int{1, -1, math.MinInt, math.MaxInt} {
		if len(s.c.Join(n, 2)) != 0 || len(s.c.Leave(n, 1)) != 0 || len(s.c.Bytes(n, 1, x.able())) != 0 || len(s.c.Tick(n)) != 0 {
			t.Errorf("acts of the torrent %d", n)
		}
		asksNothing(t, s.c, n, api.ErrTorrent)
	}
	s.peers("as it was", 1)
	wants(t, "Remove", s.c.Remove(0), api.OK)
	if len(s.join(2)) != 0 || len(s.leave(1)) != 0 || len(s.says(1, x.able())) != 0 || len(s.ticks(30)) != 0 {
		t.Error("acts of a torrent that is gone")
	}
	asksNothing(t, s.c, 0, api.ErrTorrent)
}

// asksNothing fails the test unless all that asks about a torrent is refused.
func asksNothing(t *testing.T, c *client.Client, n int, want api.Errno) {
	t.Helper()
	wants(t, "Sync", c.Sync(n), want)
	wants(t, "Remove", c.Remove(n), want)
	if s, e := c.State(n); e != want || s.Phase != 0 || s.Why != 0 || s.Info != (api.Hash{}) || s.Name != "" || s.Pieces != 0 || s.Had != 0 || len(s.Done) != 0 || len(s.Peers) != 0 {
		t.Errorf("State(%d) = %v, %d", n, s, e)
	}
	if b, e := c.Text(n); e != want || len(b) != 0 {
		t.Errorf("Text(%d) = %v, %d", n, b, e)
	}
	if b, e := c.File(n, 0); e != want || len(b) != 0 {
		t.Errorf("File(%d, 0) = %v, %d", n, b, e)
	}
	if l, e := c.Answers(n); e != want || len(l) != 0 {
		t.Errorf("Answers(%d) = %v, %d", n, l, e)
	}
}
