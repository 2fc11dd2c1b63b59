package session_test

import (
	"bytes"
	"math"
	"slices"
	"testing"

	"torrent/api"
	"torrent/disk"
	"torrent/frame"
	"torrent/session"
)

// P19.1, P0.2, P0.7, P0.8: what New refuses, and in which order; the disk is as it was, its unsynced writes too.
func TestNewRefuses(t *testing.T) {
	x := whole(t, 64, []byte("abc"), some(200))
	y := whole(t, 64, []byte("abd"), some(200))
	small, _ := disk.New(x.disk(t).Size() - 1)
	fits := func() *disk.Disk { return x.disk(t) }
	for _, c := range []struct {
		what string
		sc   api.Scale
		text []byte
		info api.Hash
		d    *disk.Disk
		want api.Errno
	}{
		{"nothing", api.Scale{}, nil, api.Hash{}, nil, api.ErrScale},
		{"no width", api.Scale{Block: 64}, x.text, x.info, fits(), api.ErrScale},
		{"a width of 33", api.Scale{Block: 64, Width: 33}, x.text, x.info, fits(), api.ErrScale},
		{"a block of the least int", api.Scale{Block: math.MinInt, Width: 32}, x.text, x.info, fits(), api.ErrScale},
		{"a bad scale and a bad text", api.Scale{Block: 65, Width: 32}, []byte("x"), api.Hash{}, nil, api.ErrScale},
		{"no text", own, nil, x.info, fits(), api.ErrTextEnd},
		{"half a text", own, x.text[:len(x.text)-1], x.info, fits(), api.ErrTextEnd},
		{"no metainfo, and the wrong infohash", own, []byte("de"), api.Hash{}, nil, api.ErrMetaShape},
		{"a metainfo of version 1", own, []byte("d4:infod6:pieces0:e12:piece layersdee"), x.info, fits(), api.ErrMetaHybrid},
		{"a metainfo of another scale", api.Scale{Block: 128, Width: 32}, x.text, x.info, fits(), api.ErrMetaPiece},
		{"hashes that are none at the width", api.Scale{Block: 64, Width: 2}, x.text, x.info, fits(), api.ErrMetaRoot},
		{"another infohash", own, x.text, y.info, fits(), api.ErrWrong},
		{"another infohash and no disk", own, x.text, api.Hash{}, nil, api.ErrWrong},
		{"no disk", own, x.text, x.info, nil, api.ErrStoreDisk},
		{"a disk that New has not made", own, x.text, x.info, new(disk.Disk), api.ErrStoreDisk},
		{"too small a disk", own, x.text, x.info, small, api.ErrStoreDisk},
		{"the disk of another torrent", own, x.text, x.info, y.filled(t, 0), api.ErrStoreOther},
		{"another infohash and the disk of another torrent", own, x.text, api.Hash{}, y.filled(t, 0), api.ErrWrong},
	} {
		if c.d.Size() > 0 {
			c.d.Write(c.d.Size()-1, bytes.Repeat([]byte{7}, 64))
		}
		was := c.d.Copy()
		s, l, e := session.New(c.sc, c.text, c.info, us, c.d)
		if s != nil || len(l) != 0 || e != c.want {
			t.Errorf("%s: New = %v, %v, %d; want %d", c.what, s, l, e, c.want)
		}
		if !bytes.Equal(c.d.Image(), was.Image()) || !bytes.Equal(c.d.Durable(), was.Durable()) || !slices.Equal(c.d.Pending(), was.Pending()) {
			t.Errorf("%s: the disk was touched", c.what)
		}
	}
}

// P19.1: the mark of the disk is the infohash: a session of the same files under another name does not take it.
func TestMark(t *testing.T) {
	x := whole(t, 64, some(100))
	d := x.filled(t, 0)
	x.start(t, d)
	y := whole(t, 64, some(100), nil)
	if s, _, e := session.New(own, y.text, y.info, us, d); s != nil || e != api.ErrStoreOther {
		t.Errorf("New = %v, %d", s, e)
	}
}

// P19.1: what is had is told by rising pieces, then the complete files, empty ones among them.
func TestStartTells(t *testing.T) {
	files := [][]byte{nil, some(130), some(64), nil, some(65), some(1)} // pieces: none; 0 1 2; 3; none; 4 5; 6
	x := whole(t, 64, files...)
	for _, c := range []struct {
		had  []int
		want [][]api.Act
	}{
		{nil, [][]api.Act{gotFile(0), gotFile(3)}},
		{[]int{2, 0}, [][]api.Act{gotPiece(0, 1), gotPiece(2, 1), gotFile(0), gotFile(3)}},
		{[]int{6, 3, 4}, [][]api.Act{gotPiece(3, 2), gotPiece(4, 4), gotPiece(6, 5), gotFile(0), gotFile(2), gotFile(3), gotFile(5)}},
		{[]int{0, 1, 2, 5}, [][]api.Act{gotPiece(0, 1), gotPiece(1, 1), gotPiece(2, 1), gotPiece(5, 4), gotFile(0), gotFile(1), gotFile(3)}},
		{x.every(), [][]api.Act{
			gotPiece(0, 1), gotPiece(1, 1), gotPiece(2, 1), gotPiece(3, 2), gotPiece(4, 4), gotPiece(5, 4), gotPiece(6, 5),
			gotFile(0), gotFile(1), gotFile(2), gotFile(3), gotFile(4), gotFile(5)}},
	} {
		w, found := x.watched(t, x.filled(t, c.had...))
		acts(t, "start", found, c.want...)
		for _, i := range c.had {
			if w.s.Have()[0]>>(7-i)&1 == 0 {
				t.Errorf("the piece %d is not had: %v", i, w.s.Have())
			}
		}
	}
}

// P19.1: a piece that lies on the disk and whose hash is not known is not had yet.
func TestStartWithoutHashes(t *testing.T) {
	x := bare(t, 64, some(600), some(20))
	w, found := x.watched(t, x.filled(t, x.every()...))
	acts(t, "start", found, gotPiece(10, 1), gotFile(1))
	if got := w.s.Have(); !bytes.Equal(got, []byte{0, 32}) {
		t.Errorf("Have = %v", got)
	}
}

// P19.1: what the metainfo tells may be asked for from the start, other pieces may not.
func TestStartAsks(t *testing.T) {
	x, _ := build(own, 64, func(i int) bool { return i == 0 }, some(130), some(140), some(9))
	w := x.begin(t)
	w.join(1)
	l := w.bytes(1, slices.Concat(x.hello(), wire(x.field(x.every()...), plainly(api.MsgUnchoke))))
	asked := map[int]int{}
	for _, a := range l {
		if a.Kind == api.ActSend && a.Data[4] == api.MsgRequest {
			asked[int(a.Data[8])]++
		}
	}
	first := 0
	if x.m.Layers[0].Root == x.m.Files[1].Root {
		first = 3
	}
	if len(asked) != 4 || asked[first] != 1 || asked[first+1] != 1 || asked[first+2] != 1 || asked[6] != 1 {
		t.Errorf("asked for %v, of the pieces %d to %d and 6", asked, first, first+2)
	}
}

// P19.2: our handshake has our number, the infohash and the sign of version 2.
func TestHandshake(t *testing.T) {
	x := whole(t, 64, some(9))
	h := api.Hello{Flags: [8]byte{7: 16}, Peer: us}
	copy(h.Info[:], x.info[:])
	s, _ := x.start(t, x.disk(t))
	for _, i := range []int{0, 5, math.MaxInt} {
		acts(t, "Join", s.Join(i), []api.Act{{Kind: api.ActSend, Peer: i, Data: frame.Greet(h)}})
	}
}

// P19.2: who is no number, or is connected, is no act.
func TestJoinTwice(t *testing.T) {
	x := whole(t, 64, some(9))
	w := x.begin(t)
	for _, i := range []int{-1, -7, math.MinInt} {
		acts(t, "Join", w.join(i))
	}
	w.seeds(3)
	acts(t, "Join again", w.join(3))
	acts(t, "the block", w.says(3, x.block(0, 0)), gotPiece(0, 0), said(3, have(0)), gotFile(0), said(3, plainly(api.MsgIdle)))
	if p := w.s.Peers(); !slices.Equal(p, []int{3}) {
		t.Errorf("Peers = %v", p)
	}
}

// P19.2: MaxPeers are connected at most, and who is banned hears that first.
func TestCrowded(t *testing.T) {
	x := whole(t, 64, some(9))
	w := x.begin(t)
	w.seeds(20)
	acts(t, "the lie", w.says(20, wrong(x.block(0, 0))), failed(0, 0), ban(20))
	for i := range 8 {
		if l := w.join(7 - i); len(l) != 1 || l[0].Kind != api.ActSend {
			t.Fatalf("Join = %v", l)
		}
	}
	for _, i := range []int{8, 100} {
		acts(t, "the ninth", w.join(i), drop(i, api.ErrCrowd))
	}
	acts(t, "banned", w.join(20), drop(20, api.ErrBanned))
	acts(t, "connected", w.join(5))
	if p := w.s.Peers(); !slices.Equal(p, []int{0, 1, 2, 3, 4, 5, 6, 7}) {
		t.Errorf("Peers = %v", p)
	}
	w.leave(4)
	acts(t, "banned, with room", w.join(20), drop(20, api.ErrBanned))
	if l := w.join(8); len(l) != 1 || l[0].Kind != api.ActSend {
		t.Errorf("Join = %v", l)
	}
	acts(t, "full again", w.join(4), drop(4, api.ErrCrowd))
}

// P19.3, P19.8: who leaves is forgotten: what it was asked for is fetched elsewhere, and it comes again as somebody new.
func TestLeave(t *testing.T) {
	x := whole(t, 64, some(8*64))
	w := x.begin(t)
	acts(t, "nobody", w.leave(1))
	acts(t, "no number", w.leave(-1))
	w.seeds(1) // asked for the pieces 0 to 3
	w.seeds(2) // asked for 4 to 7
	acts(t, "Leave", w.leave(1))
	acts(t, "left", w.leave(1))
	acts(t, "left: Bytes", w.says(1, x.block(0, 0)))
	acts(t, "Peers", w.says(2, x.block(4, 0)), gotPiece(4, 0), said(2, have(4), x.request(0, 0)))
	w.join(1)
	acts(t, "not shaken", w.says(2, x.block(5, 0)), gotPiece(5, 0), said(2, have(5), x.request(1, 0)))
	acts(t, "come again", w.bytes(1, x.hello()), said(1, api.Msg{Kind: api.MsgBitfield, Data: []byte{12}}))
}

// P19.8: an upload knows nothing of who was there before.
func TestLeaveUpload(t *testing.T) {
	x := whole(t, 64, some(64))
	w, _ := x.watched(t, x.filled(t, 0))
	for range 2 {
		w.meet([]api.Msg{plainly(api.MsgInterested)}, 6)
		for range 3 {
			acts(t, "Tick", w.tick())
		}
		acts(t, "the choosing", w.tick(), said(6, plainly(api.MsgUnchoke)))
		w.says(6, x.request(0, 0))
		w.leave(6)
		for range 4 {
			acts(t, "Tick without it", w.tick(), nil)
		}
	}
}

// P19.8: what was out at who left may be asked of it again at once, and nothing is barred.
func TestLeaveBook(t *testing.T) {
	x := bare(t, 64, some(600))
	w := x.begin(t)
	first := w.meetAsked(1)
	if first.Index != 0 || first.Length != 8 {
		t.Fatalf("asked for %v", first)
	}
	refusal := first
	refusal.Kind = api.MsgHashReject
	second := first
	second.Index = 8
	acts(t, "refused", w.says(1, refusal), said(1, second))
	w.leave(1)
	if again := w.meetAsked(1); again.Index != 0 {
		t.Errorf("asked for %v", again)
	}
}

// meetAsked lets somebody join that has all: the query that it is asked first.
func (x *watch) meetAsked(peer int) api.Msg {
	x.t.Helper()
	x.join(peer)
	l := x.bytes(peer, slices.Concat(x.hello(), wire(x.field(x.every()...))))
	if len(l) != 2 || len(l[1].Data) != 53 {
		x.t.Fatalf("no query: %v", l)
	}
	acts(x.t, "interested", l[:1], said(peer, plainly(api.MsgInterested)))
	return unwired(x.t, l[1])
}
