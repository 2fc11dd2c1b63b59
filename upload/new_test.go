package upload_test

import (
	"math"
	"math/rand"
	"testing"

	"torrent/api"
	"torrent/meta"
	"torrent/store"
	"torrent/upload"
)

// P18.1, P0.7, P0.8: what New refuses, and in which order: the scale, the metainfo, the store.
func TestNewRefuses(t *testing.T) {
	data := content(rand.New(rand.NewSource(2)), 300)
	good := with(own, bare(own, 128, data), [][]byte{data}, 0)
	x := shelved(t, own, 128, data)
	bend := func(f func(m *api.Meta)) api.Meta {
		m := with(own, bare(own, 128, data), [][]byte{data}, 0)
		f(&m)
		return m
	}
	for _, c := range []struct {
		what string
		sc   api.Scale
		m    api.Meta
		want api.Errno
	}{
		{"no scale, no metainfo", api.Scale{}, api.Meta{}, api.ErrScale},
		{"a block of 96", api.Scale{Block: 96, Width: 32}, good, api.ErrScale},
		{"a block of the least int", api.Scale{Block: math.MinInt, Width: 32}, good, api.ErrScale},
		{"no width", api.Scale{Block: 64}, good, api.ErrScale},
		{"a width of 33", api.Scale{Block: 64, Width: 33}, good, api.ErrScale},
		{"no metainfo", own, api.Meta{}, api.ErrMetaPiece},
		{"blocks that are longer than pieces", api.Scale{Block: 256, Width: 32}, good, api.ErrMetaPiece},
		{"a name that may not be", own, bend(func(m *api.Meta) { m.Name = ".." }), api.ErrNameDot},
		{"no files", own, bend(func(m *api.Meta) { m.Files = nil }), api.ErrMetaTree},
		{"a length below 0", own, bend(func(m *api.Meta) { m.Files[0].Len = math.MinInt }), api.ErrMetaLength},
		{"hashes that are none at the width", api.Scale{Block: 64, Width: 1}, good, api.ErrMetaRoot},
		{"too many pieces", own, bend(func(m *api.Meta) { m.Files[0].Len = 1 << 40 }), api.ErrPathMany},
		{"another layer", own, bend(func(m *api.Meta) { m.Layers[0].Hashes[1][0]++ }), api.ErrMetaLayer},
	} {
		wants(t, "meta.Check of "+c.what, meta.Check(c.sc, c.m), c.want)
		for _, s := range []*store.Store{nil, x.s, new(store.Store)} {
			if u, e := upload.New(c.sc, c.m, s); u != nil || e != c.want {
				t.Errorf("%s: New = %v, %d; want %d", c.what, u, e, c.want)
			}
		}
	}
	if u, e := upload.New(own, good, nil); u != nil || e != api.ErrNil {
		t.Errorf("no store: New = %v, %d", u, e)
	}
	made(t, own, good, x.s)
}

// P18.1: a new upload has no peers, and says nothing.
func TestNewIsEmpty(t *testing.T) {
	x := three(t)
	for i := range 20 {
		x.says(i)
		wants(t, "Leave", x.leave(i), api.ErrPeer)
	}
	x.look()
}

// P18.1: torrents without a byte have no piece that could be asked for.
func TestNoPieces(t *testing.T) {
	x := begin(t, own, bare(own, 64, nil, nil), shelved(t, own, 64, nil, nil))
	x.invite(1)
	x.says(0, opens(1))
	wants(t, "Request", x.request(1, 0, 0, 1), api.ErrPiece)
	wants(t, "Learn", x.learn(0, api.Hash{}), api.ErrPiece)
	m, e := x.hashes(1, api.Query{Length: 2})
	if e != api.OK || m.Kind != api.MsgHashReject {
		t.Errorf("Hashes = %v, %d", m, e)
	}
}

// P18.1: what happens to the store later is seen.
func TestStoreIsSeen(t *testing.T) {
	x := three(t)
	x.invite(4)
	x.tick(0)
	q := api.Query{Root: x.p.m.Files[0].Root, Base: 0, Index: 0, Length: 8, Proofs: 0}
	for range 3 {
		wants(t, "not there: Request", x.request(4, 1, 0, 64), api.ErrStoreLack)
		if m, _ := x.hashes(4, q); m.Kind != api.MsgHashReject {
			t.Fatalf("not there: Hashes = %v", m)
		}
	}
	x.s.Put(1, 0, x.b[1][:64])
	wants(t, "half there: Request", x.request(4, 1, 0, 64), api.ErrStoreLack)
	x.fill(1)
	wants(t, "there: Request", x.request(4, 1, 0, 64), api.OK)
	if m, _ := x.hashes(4, q); m.Kind != api.MsgHashes || len(m.Hashes) != 8 {
		t.Fatalf("there: Hashes = %v", m)
	}
	x.says(1, gives(4, 1, 0, x.b[1][:64]))
}

// P18.1, P18.4, P18.7, P18.10: a store of other pieces: of what it does not read nothing is given, and what it reads is what it has.
func TestOtherStore(t *testing.T) {
	r := rand.New(rand.NewSource(3))
	data := content(r, 300)
	m := with(own, bare(own, 128, data), [][]byte{data}, 0)
	for _, other := range [][][]byte{
		{},
		{content(r, 100)},
		{content(r, 128), content(r, 70), content(r, 44)},
		{content(r, 1), content(r, 128), content(r, 43), content(r, 128)},
		{content(r, 500), content(r, 128)},
		{data, data},
	} {
		x := begin(t, own, m, shelved(t, own, 128, other...))
		x.fillAll()
		x.invite(1)
		x.tick(0)
		for _, at := range r.Perm(300) {
			x.request(1, at/128, at%128, 1+r.Intn(64))
			if r.Intn(3) == 0 {
				x.tick(1)
			}
		}
		for base := range 4 {
			x.hashes(1, api.Query{Root: m.Files[0].Root, Base: base, Length: 2})
		}
		for range 6 {
			x.tick(1)
		}
	}
	x := begin(t, own, m, &shelf{t: t, s: new(store.Store)})
	x.invite(1)
	x.tick(0)
	wants(t, "a store that Open has not made: Request", x.request(1, 0, 0, 1), api.ErrStoreLack)
	if m, _ := x.hashes(1, api.Query{Root: m.Files[0].Root, Base: 0, Length: 2}); m.Kind != api.MsgHashReject {
		t.Errorf("a store that Open has not made: Hashes = %v", m)
	}
}

// P18.10: a request of which the store reads nothing is one of the Serve all the same.
func TestUnreadCounts(t *testing.T) {
	r := rand.New(rand.NewSource(4))
	data := content(r, 300)
	x := begin(t, own, bare(own, 128, data), shelved(t, own, 128, content(r, 10), content(r, 128)))
	x.fillAll()
	x.invite(6)
	x.tick(0)
	x.request(6, 0, 0, 11)
	x.request(6, 1, 0, 7)
	x.request(6, 0, 9, 2)
	x.request(6, 0, 9, 1)
	x.request(6, 1, 1, 7)
	x.says(1, gives(6, 1, 0, x.b[1][:7]), gives(6, 0, 9, x.b[0][9:10]))
	x.says(2, gives(6, 1, 1, x.b[1][1:8]))
	x.says(3)
}
