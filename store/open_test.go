package store_test

import (
	"bytes"
	"crypto/sha256"
	"encoding/binary"
	"math/rand"
	"slices"
	"testing"

	"torrent/api"
	"torrent/disk"
	"torrent/journal"
	"torrent/store"
)

// many are n pieces of all lengths up to four blocks.
func many(r *rand.Rand, sc api.Scale, n int) ([]api.Piece, [][]byte) {
	ps, data := make([]api.Piece, n), make([][]byte, n)
	for i := range ps {
		leaves := 1 << r.Intn(3)
		data[i] = content(r, 1+r.Intn(leaves*sc.Block))
		ps[i] = piece(sc, data[i], leaves)
	}
	return ps, data
}

// P14.2: the head of lists of all sizes, and the disk that is laid out with it, be it just large enough or larger.
func TestLayOut(t *testing.T) {
	r := rand.New(rand.NewSource(3))
	for _, n := range []int{0, 1, 2, 3, 255, 256, 300, 5000} {
		ps, _ := many(r, own, n)
		for _, more := range []int{0, 1, 50} {
			size := need(ps) + more
			for _, image := range [][]byte{make([]byte, 64*size), content(r, 64*size)} {
				d, _ := disk.Load(image)
				opened(t, own, d, ps)
				copy(image, head(torrent, n, sectors(ps)))
				clear(image[64 : 64*(n+4)])
				if !bytes.Equal(d.Durable(), image) || len(d.Pending()) != 0 {
					t.Fatalf("%d pieces and %d sectors more: the disk is laid out otherwise", n, more)
				}
			}
		}
		d := made(t, need(ps)-1)
		if s, e := store.Open(own, d, torrent, ps); s != nil || e != api.ErrStoreDisk || !bytes.Equal(d.Image(), make([]byte, 64*d.Size())) {
			t.Errorf("%d pieces and a sector too few: Open = %v, %d", n, s, e)
		}
	}
}

// P14.2: a head with one bit changed is none: the disk is laid out anew, but for the pieces, which Recheck finds.
func TestNoHead(t *testing.T) {
	ps, r0, r1 := two()
	x := filled(t)
	x.puts(1, r1)
	x.finish(1)
	x.sync()
	image := x.d.Image()
	for bit := range 512 {
		d, _ := disk.Load(image)
		b, _ := d.Read(0)
		b[bit/8] ^= 1 << (bit % 8)
		d.Write(0, b)
		x := begin(t, own, d, ps)
		x.shows(0, 0, 0)
		if n, e := x.recheck(); n != 2 || e != api.OK {
			t.Fatalf("without the bit %d: Recheck = %d, %d", bit, n, e)
		}
		if b, _ := x.read(0, 0, 130); !bytes.Equal(b, r0) {
			t.Fatal("the bytes have changed")
		}
	}
}

// P14.2: another text at either end of the head, its digest reckoned with it, makes no good head; one that is good in these alone is another's.
func TestTexts(t *testing.T) {
	ps, _, _ := two()
	for at := range 64 {
		b := head(torrent, 2, 4)
		if b[at] ^= 32; at < 48 {
			sum := sha256.Sum256(b[:48])
			copy(b[48:], sum[:8])
		}
		want := api.ErrStoreOther
		if at < 8 || at >= 48 {
			want = api.OK
		}
		d := made(t, 10)
		d.Write(0, b)
		d.Sync()
		if s, e := store.Open(own, d, torrent, ps); e != want || e == api.OK != (s != nil) {
			t.Fatalf("with another byte %d: Open = %v, %d, want %d", at, s, e, want)
		}
		if want == api.OK {
			b = head(torrent, 2, 4)
		}
		if c, _ := d.Read(0); !bytes.Equal(c, b) {
			t.Fatalf("with another byte %d: the head is %v", at, c)
		}
	}
}

// P14.2: each single act of the laying out, as a fuse shows them beside the plain store.
func TestLayOutActs(t *testing.T) {
	r := rand.New(rand.NewSource(4))
	ps, _, _ := two()
	for _, blank := range []bool{true, false} {
		for acts := range 14 {
			for range 20 {
				image := content(r, 640)
				if blank {
					clear(image[:64])
				}
				d, _ := disk.Load(image)
				d.Fuse(acts)
				x := begin(t, own, d, ps)
				x.crash(flips(r, x.d), r.Intn(len(x.d.Pending())+1)-1, r.Intn(65), ps)
			}
		}
	}
}

// P14.2, P14.13: a disk with the head of another torrent is refused and left alone, its unsynced writes too; so is one that is too small.
func TestOther(t *testing.T) {
	ps, _, r1 := two()
	x := filled(t)
	x.put(1, 0, r1)
	x.d.Fuse(3)
	longer := slices.Clone(ps)
	longer[1].Len, longer[1].Leaves = 65, 2
	cases := []struct {
		mark api.Hash
		ps   []api.Piece
		want api.Errno
	}{
		{api.Hash{}, ps, api.ErrStoreOther},
		{torrent, ps[:1], api.ErrStoreOther},
		{torrent, ps[1:], api.ErrStoreOther},
		{torrent, nil, api.ErrStoreOther},
		{torrent, slices.Repeat(ps[1:], 2), api.ErrStoreOther}, // as many pieces, fewer sectors
		{torrent, longer, api.ErrStoreDisk},
		{torrent, append(slices.Clone(ps), ps...), api.ErrStoreDisk},
	}
	for i := range 256 {
		mark := torrent
		mark[i/8] ^= 1 << (i % 8)
		cases = append(cases, cases[0])
		cases[len(cases)-1].mark = mark
	}
	for _, c := range cases {
		s, e := store.Open(own, x.d, c.mark, c.ps)
		if s != nil || e != c.want {
			t.Fatalf("Open with %d pieces = %v, %d, want %d", len(c.ps), s, e, c.want)
		}
	}
	x.p.d.Fuse(3)
	x.look()
	x.crash([]bool{true, true, true, true, true}, -1, 0, ps)
	x.shows(128, 224, 0)

	// Three pieces in as many sectors as two had, with a head that nobody synced.
	d := made(t, 12)
	d.Write(0, head(torrent, 2, 4))
	d.Write(1, content(rand.New(rand.NewSource(5)), 64))
	was, list := d.Image(), slices.Repeat(ps[1:], 3)
	list[0].Len, list[0].Leaves = 65, 2
	if s, e := store.Open(own, d, torrent, list); s != nil || e != api.ErrStoreOther || sectors(list) != 4 {
		t.Errorf("another number of pieces: Open = %v, %d", s, e)
	}
	if !bytes.Equal(d.Image(), was) || !slices.Equal(d.Pending(), []int{0, 1}) || !bytes.Equal(d.Durable(), make([]byte, 64*12)) {
		t.Error("a disk of another torrent has changed")
	}
}

// P14.2: a list of other lengths and hashes fits, if it has as many pieces and sectors.
func TestFits(t *testing.T) {
	ps, _, _ := two()
	x := filled(t)
	x.sync()
	other := slices.Clone(ps)
	other[0].Len, other[0].Hash = 131, api.Hash{}
	other[1].Leaves = 16
	image := x.d.Image()
	x.open(other)
	x.shows(0, 0, 0)
	x.open(ps)
	if x.shows(128, 224, 0); !bytes.Equal(x.d.Image(), image) {
		t.Error("Open writes")
	}
}

// claims lays records into the ring of n pieces.
func claims(d *disk.Disk, n int, records ...api.Record) {
	j, _ := journal.Open(d, 1, n+3)
	for _, r := range records {
		j.Append(r.Kind, r.Data)
	}
	j.Sync()
}

// P14.2: what a claim is, and what is passed over.
func TestClaims(t *testing.T) {
	ps, r0, r1 := two()
	for _, c := range []struct {
		kind int
		data []byte
		want byte
	}{
		{1, []byte{0, 0, 0, 0}, 128},
		{1, []byte{0, 0, 0, 1}, 64},
		{1, []byte{0, 0, 0, 2}, 0},
		{1, []byte{0, 0, 1, 0}, 0},
		{1, []byte{0, 1, 0, 0}, 0},
		{1, []byte{1, 0, 0, 0}, 0},
		{1, []byte{1, 0, 0, 1}, 0},
		{1, []byte{255, 255, 255, 255}, 0},
		{1, []byte{128, 0, 0, 0}, 0},
		{1, []byte{0, 0, 0}, 0},
		{1, []byte{0, 0, 0, 0, 0}, 0},
		{1, []byte{0, 0, 0, 1, 0}, 0},
		{1, make([]byte, 36), 0},
		{1, nil, 0},
		{2, []byte{0, 0, 0, 0}, 0},
		{255, []byte{0, 0, 0, 0}, 0},
	} {
		x := fresh(t)
		x.puts(0, r0)
		x.puts(1, r1)
		x.sync()
		for _, d := range []*disk.Disk{x.d, x.p.d} {
			claims(d, 2, api.Record{Kind: 9}, api.Record{Kind: c.kind, Data: c.data})
		}
		x.open(ps)
		if b := x.s.Have(); b[0] != c.want {
			t.Errorf("kind %d, data %v: Have %v", c.kind, c.data, b)
		}
		x.recheck() // no second claim for what is claimed
	}
}

// P14.2: claims are read out of all four bytes of a number.
func TestFarClaims(t *testing.T) {
	ps := slices.Repeat([]api.Piece{piece(own, []byte{7}, 1)}, 600)
	d := made(t, need(ps))
	x := begin(t, own, d, ps)
	for _, i := range []int{0, 1, 255, 256, 257, 511, 512, 599} {
		wants(t, "Put", x.s.Put(i, 0, []byte{7}), api.OK)
		wants(t, "Finish", x.s.Finish(i), api.OK)
		x.p.put(i, 0, []byte{7})
		x.p.finish(i)
	}
	x.sync()
	x.open(ps)
	if had := x.s.Have(); had[32] != 128+64 || had[31] != 1 || had[74] != 1 {
		t.Errorf("Have %v", had)
	}
	live := x.p.j.Live()
	if b := live[3].Data; !bytes.Equal(b, binary.BigEndian.AppendUint32(nil, 256)) {
		t.Errorf("the claim for the piece 256: %v", b)
	}
}

// P14.2, P14.12: what is stale in the ring is scrubbed, and nothing else is written.
func TestScrubbed(t *testing.T) {
	ps, _, _ := two()
	x := filled(t)
	x.sync()
	image := x.d.Image()
	x.write(4, bytes.Repeat([]byte{4}, 64))
	x.write(9, bytes.Repeat([]byte{9}, 64))
	x.open(ps)
	copy(image[9*64:], bytes.Repeat([]byte{9}, 64))
	if x.shows(128, 224, 0); !bytes.Equal(x.d.Durable(), image) {
		t.Error("Open leaves something stale, or wipes more")
	}
	x.write(9, bytes.Repeat([]byte{8}, 64))
	x.open(ps)
	if !slices.Equal(x.d.Pending(), []int{9}) {
		t.Errorf("nothing is stale, but Pending %v", x.d.Pending())
	}
}
