package client_test

import (
	"slices"
	"strings"
	"testing"

	"torrent/api"
	"torrent/digest"
)

// DOC.md's example 11: a torrent by a link, until all of it is there.
func TestExample11(t *testing.T) {
	x, ok := build(own, "t", 64, []byte("abc"))
	if !ok {
		t.Fatal("no torrent")
	}
	s := x.byLink(t, sectors(t, 6))
	s.phase("the link", api.PhaseWaiting, api.OK)
	acts(t, "Join", s.join(1), sends(1, x.ours()))
	wish := "d1:md11:ut_metadatai1ee4:reqqi16e1:v7:torrente"
	acts(t, "a handshake", s.says(1, x.able(), []byte{0, 0, 0, 2, 5, 128, 0, 0, 0, 1, 1}), sends(1, framed([]byte("\x14\x00"+wish))))
	n := len(x.dict)
	parts := (n + 63) / 64
	if parts != 3 {
		t.Fatalf("%d parts", parts)
	}
	acts(t, "its wish", s.says(1, framed([]byte("\x14\x00d1:md11:ut_metadatai3ee13:metadata_sizei"+num(n)+"ee"))), sends(1, framed([]byte("\x14\x03d8:msg_typei0e5:piecei0ee"))))
	for i := range parts {
		want := sends(1, framed([]byte("\x14\x03d8:msg_typei0e5:piecei"+num(i+1)+"ee")))
		if i == parts-1 { // the session starts, and hears that the peer has the piece and lets us ask
			want = sends(1, []byte{0, 0, 0, 1, 2}, []byte{0, 0, 0, 13, 6, 0, 0, 0, 0, 0, 0, 0, 0, 0, 0, 0, 3})
		}
		data := string(x.dict[64*i : min(64*i+64, n)])
		acts(t, "the part "+num(i), s.says(1, framed([]byte("\x14\x01d8:msg_typei1e5:piecei"+num(i)+"e10:total_sizei"+num(n)+"ee"+data))), want)
	}
	s.phase("the last part", api.PhaseRunning, api.OK)
	acts(t, "the block", s.says(1, []byte("\x00\x00\x00\x0c\x07\x00\x00\x00\x00\x00\x00\x00\x00abc")), []api.Act{{Kind: api.ActPiece}},
		sends(1, []byte{0, 0, 0, 5, 4, 0, 0, 0, 0}), []api.Act{{Kind: api.ActFile}}, sends(1, []byte{0, 0, 0, 1, 3}))
	if b, e := s.c.File(0, 0); e != api.OK || string(b) != "abc" {
		t.Errorf("File = %q, %d", b, e)
	}
	acts(t, "it is given on", s.says(1, framed([]byte("\x14\x01d8:msg_typei0e5:piecei2ee"))),
		sends(1, framed([]byte("\x14\x03d8:msg_typei1e5:piecei2e10:total_sizei"+num(n)+"ee"+string(x.dict[128:])))))
}

// DOC.md's example 12: an info dictionary that can't be used says why, and nothing is written to the disk.
func TestExample12(t *testing.T) {
	const good = "d9:file treed1:ad0:d6:lengthi0eeee12:meta versioni2e4:name1:t12:piece lengthi64ee"
	twice := strings.Replace(good, "lengthi0eeee", "lengthi0eee1:ad0:d6:lengthi0eeee", 1)
	for dict, want := range map[string]api.Errno{
		strings.Replace(good, "12:meta", "6:lengthi3e12:meta", 1): api.ErrMetaHybrid,
		twice: api.ErrTextKey,
		strings.Replace(good, "4:name1:t", "4:name3:a/b", 1): api.ErrNameByte,
		good: api.OK,
	} {
		x := lone(own, []byte(dict))
		d := sectors(t, 5)
		was := d.Copy()
		s := x.byLink(t, d)
		s.offers(1)
		s.given(1)
		if want == api.OK {
			acts(t, dict, s.says(1, s.last()), []api.Act{{Kind: api.ActFile}})
			s.phase(dict, api.PhaseRunning, api.OK)
			if slices.Equal(d.Image(), was.Image()) {
				t.Error("the session has not marked its disk")
			}
			continue
		}
		acts(t, dict, s.says(1, s.last()), drops(want, 1))
		s.phase(dict, api.PhaseBad, want)
		untouched(t, dict, d, was)
	}
}

// DOC.md's example 3 in a client: what goes to the session and comes of it.
func TestExample3(t *testing.T) {
	x, _ := build(own, "t", 64, []byte("abc"))
	h := digest.Sum([]byte("abc"))
	if !strings.Contains(string(x.text), "d6:lengthi3e11:pieces root32:"+string(h[:])+"e") {
		t.Fatalf("the text is %q", x.text)
	}
	s := x.running(t)
	acts(t, "Join", s.join(1), sends(1, x.ours()))
	acts(t, "its handshake, what it has, an unchoke", s.says(1, x.hello(), []byte{0, 0, 0, 2, 5, 128, 0, 0, 0, 1, 1}),
		sends(1, []byte{0, 0, 0, 1, 2}, []byte{0, 0, 0, 13, 6, 0, 0, 0, 0, 0, 0, 0, 0, 0, 0, 0, 3}))
	acts(t, "another block", s.says(1, []byte("\x00\x00\x00\x0c\x07\x00\x00\x00\x00\x00\x00\x00\x00abd")), []api.Act{{Kind: api.ActFail}}, bans(api.ErrLied, 1))
	acts(t, "banned", s.join(1), drops(api.ErrBanned, 1))
	s.peers("banned")
}
