package engine_test

import (
	"bytes"
	"slices"
	"testing"

	"torrent/api"
	"torrent/digest"
	"torrent/engine"
)

// The document's example 1.
func TestEmptyOfTheDocument(t *testing.T) {
	x := made(t, own, 64, nil)
	if string(x.text) != "d4:infod9:file treed1:ad0:d6:lengthi0eeee12:meta versioni2e4:name1:t12:piece lengthi64ee12:piece layersdee" {
		t.Errorf("the text is %q", x.text)
	}
	r := x.run(t, x.text)
	acts(t, "start", r.Acts[0], gotFile(0))
	if len(r.Have) != 0 || !slices.Equal(r.Done, []bool{true}) {
		t.Errorf("report %v", r)
	}
}

// The document's example 2.
func TestSizesOfTheDocument(t *testing.T) {
	x := abc(t)
	if !bytes.Contains(x.text, []byte("d6:lengthi3e11:pieces root32:\xba\x78\x16\xbf")) {
		t.Errorf("the text is %q", x.text)
	}
	if n, e := engine.Sectors(own, x.text); n != 6 || e != api.OK {
		t.Errorf("Sectors = %d, %d", n, e)
	}
	if n, e := engine.Calm(own, x.text); n != 236 || e != api.OK {
		t.Errorf("Calm = %d, %d", n, e)
	}
}

// The document's examples 3 and 4.
func TestBlockOfTheDocument(t *testing.T) {
	x := abc(t)
	hello := sends(1, x.hello(), []byte{0, 0, 0, 2, 5, 128, 0, 0, 0, 1, 1})
	r := x.run(t, x.text, join(1), hello, says(1, x.block(0, 0)))
	acts(t, "join", r.Acts[1], to(1, x.us()))
	acts(t, "the greeting", r.Acts[2], to(1, weWant, weAsk))
	acts(t, "the block", r.Acts[3], gotPiece(0, 0), to(1, weHave), gotFile(0), to(1, weIdle))
	x.whole(t, r)
	r = x.run(t, x.text, join(1), hello, says(1, block2(0, []byte("abd"))), join(1))
	acts(t, "the lie", r.Acts[3], failed(0, 0), ban(1))
	acts(t, "again", r.Acts[4], drop(1, api.ErrBanned))
	if r.Done[0] || len(r.Files[0]) > 0 {
		t.Errorf("report %v", r)
	}
}

// The document's examples 5 and 6.
func TestSlowOfTheDocument(t *testing.T) {
	x := abc(t)
	cancel := []byte{0, 0, 0, 13, 8, 0, 0, 0, 0, 0, 0, 0, 0, 0, 0, 0, 3}
	r := x.run(t, x.text, append(x.seeds(1), times(24, tick())...)...)
	for i := 1; i <= 24; i++ {
		var want []api.Act
		if i == 8 || i == 16 {
			want = to(1, cancel, alive, weAsk)
		}
		if i == 24 {
			want = append(to(1, cancel), drop(1, api.ErrSlow)...)
		}
		acts(t, "a tick", r.Acts[2+i], want)
	}
	r = x.run(t, x.text, slices.Concat(x.seeds(1), x.seeds(2), []api.Move{sends(1, []byte{0, 0, 128, 1}), says(2, x.block(0, 0))})...)
	acts(t, "a frame that is too long", r.Acts[5], drop(1, api.ErrFrame))
	x.whole(t, r)
}

// The document's example 7.
func TestCrashOfTheDocument(t *testing.T) {
	x := abc(t)
	for _, c := range []struct {
		between []api.Move
		want    bool
	}{
		{nil, false},
		{[]api.Move{syncs()}, true},
		{[]api.Move{fuse(0), syncs()}, false},
	} {
		r := x.run(t, x.text, slices.Concat(x.fetched(1), c.between, []api.Move{crash()})...)
		if r.Done[0] != c.want {
			t.Errorf("behind %v: %v", c.between, r.Done)
		}
		var found [][]api.Act
		if c.want {
			found = [][]api.Act{gotPiece(0, 0), gotFile(0)}
		}
		acts(t, "the new start", r.Acts[len(r.Acts)-1], found...)
	}
}

// The document's example 8.
func TestTwoBlocksOfTheDocument(t *testing.T) {
	x := made(t, own, 128, some(100))
	wrong := func(block int) api.Msg {
		m := x.block(0, block)
		m.Data = make([]byte, len(m.Data))
		return m
	}
	both := slices.Concat(x.seeds(1), x.seeds(2))
	r := x.run(t, x.text, append(both, says(1, wrong(0)), says(2, wrong(1)), says(2, x.block(0, 0), x.block(0, 1)))...)
	for i, l := range r.Acts {
		fails := slices.ContainsFunc(l, func(a api.Act) bool { return a.Kind == api.ActFail })
		if fails != (i == 6) || slices.ContainsFunc(l, func(a api.Act) bool { return a.Kind == api.ActBan || a.Kind == api.ActDrop }) {
			t.Errorf("element %d: %v", i, l)
		}
	}
	x.whole(t, r)
	r = x.run(t, x.text, append(both, says(1, wrong(0), wrong(1)), says(2, x.block(0, 0), x.block(0, 1)))...)
	if l := r.Acts[5]; !slices.ContainsFunc(l, func(a api.Act) bool { return a.Kind == api.ActBan && a.Peer == 1 }) || slices.ContainsFunc(l, func(a api.Act) bool { return a.Kind == api.ActBan && a.Peer == 2 }) {
		t.Errorf("both wrong: %v", l)
	}
	x.whole(t, r)
}

// The document's example 9.
func TestShareOfTheDocument(t *testing.T) {
	x := made(t, own, 64, []byte("abc"), nil, some(400))
	r, e := x.share(true)
	wants(t, "Share", e, api.OK)
	x.whole(t, r)
	said := told(slices.Concat(r.Acts...), 0)
	if count(said, api.MsgHashRequest) != 1 || count(said, api.MsgRequest) != 8 || len(r.Answers) != 1 {
		t.Fatalf("%d queries, %d requests, %d answers", count(said, api.MsgHashRequest), count(said, api.MsgRequest), len(r.Answers))
	}
	if a := r.Answers[0]; a.Query.Root != x.m.Files[2].Root || a.Query.Length != 8 || a.Query.Index != 0 || len(a.Hashes) != 8 {
		t.Errorf("the answer %v", a)
	}
	r, e = x.share(false)
	wants(t, "Share", e, api.OK)
	x.whole(t, r)
	if len(r.Answers) != 0 {
		t.Errorf("%d answers", len(r.Answers))
	}
}

// The document's example 10.
func TestEvidenceOfTheDocument(t *testing.T) {
	x := made(t, narrow, 64, []byte("abc"))
	for i := range 10000 {
		b := []byte{'x', byte(i), byte(i >> 8)}
		if !digest.Clash(narrow, b, []byte("abc")) {
			continue
		}
		moves := append(x.seeds(1), says(1, block2(0, b)))
		r := x.run(t, x.text, moves...)
		if !r.Done[0] || !bytes.Equal(r.Files[0], b) {
			t.Fatalf("report %v", r)
		}
		u, v, e := x.evidence(x.text, moves...)
		shown(t, narrow, u, v, e, []byte("abc"), b)
		return
	}
	t.Error("none was found")
}

// The document's example 12: what can't be read doesn't start.
func TestBadTextsOfTheDocument(t *testing.T) {
	wrap := func(info string) []byte { return []byte("d4:infod" + info + "e12:piece layersdee") }
	rest := "12:meta versioni2e4:name1:t12:piece lengthi64e"
	for _, c := range []struct {
		text []byte
		want api.Errno
	}{
		{wrap("9:file treed1:ad0:d6:lengthi0eeee" + rest + "6:pieces0:"), api.ErrMetaHybrid},
		{wrap("9:file treed1:ad0:d6:lengthi0eeee" + "6:lengthi0e" + rest), api.ErrMetaHybrid},
		{wrap("9:file treed1:ad0:d6:lengthi0eee1:ad0:d6:lengthi0eeee" + rest), api.ErrTextKey},
		{wrap("9:file treed3:a/bd0:d6:lengthi0eeee" + rest), api.ErrNameByte},
	} {
		r, e := engine.Run(own, c.text, api.Hash{}, 10, []api.Move{join(1)})
		if e != api.OK || r.Start != c.want || !isNothing(r) {
			t.Errorf("Run(%q) = %v, %d", c.text, r, e)
		}
	}
}
