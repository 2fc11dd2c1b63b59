package store_test

import (
	"bytes"
	"math"
	"math/rand"
	"slices"
	"testing"

	"torrent/api"
	"torrent/disk"
)

// odd are numbers at the edges of a piece's length, and far from them.
func odd(r *rand.Rand, n, block int) int {
	l := []int{math.MinInt, -block, -1, 0, 1, 63, 64, block - 1, block, block + 1, 2 * block, n - block, n - 1, n, n + 1, (n/block + 1) * block, 1 << 62, math.MaxInt}
	return l[r.Intn(len(l))]
}

// some makes one call or another, that may be taken or refused. data are the pieces' bytes.
func (x *watch) some(r *rand.Rand, ps []api.Piece, data [][]byte) {
	x.t.Helper()
	i := r.Intn(len(ps)+2) - 1
	if i < 0 || i == len(ps) {
		x.put(i, 0, make([]byte, x.sc.Block))
		x.finish(i)
		x.learn(i, api.Hash{})
		x.read(i, 0, 0)
		return
	}
	switch r.Intn(12) {
	case 0, 1, 2, 3:
		at := r.Intn(x.p.blocks(i)) * x.sc.Block
		b := bytes.Clone(data[i][at:min(len(data[i]), at+x.sc.Block)])
		if r.Intn(8) == 0 {
			b[r.Intn(len(b))] ^= 1
		}
		x.put(i, at, b)
	case 4:
		n := len(data[i])
		x.put(i, odd(r, n, x.sc.Block), make([]byte, max(0, min(2*n, odd(r, n, x.sc.Block)))))
	case 5, 6:
		x.finish(i)
	case 7:
		h := ps[i].Hash
		if r.Intn(4) == 0 {
			h[r.Intn(32)] ^= 1
		}
		x.learn(i, h)
	case 8:
		n := len(data[i])
		x.read(i, odd(r, n, x.sc.Block), odd(r, n, x.sc.Block))
		x.read(i, r.Intn(n+1), r.Intn(n+1))
	case 9, 10:
		x.sync()
	case 11:
		x.recheck()
	}
}

// someScale is a scale at which pieces are small.
func someScale(r *rand.Rand) api.Scale {
	return api.Scale{Block: 64 << r.Intn(3), Width: []int{1, 2, 31, 32, 32, 32}[r.Intn(6)]}
}

// someDark is the list with some hashes unknown.
func someDark(r *rand.Rand, ps []api.Piece) []api.Piece {
	for i := range ps {
		if r.Intn(5) == 0 {
			ps = dark(ps, i)
		}
	}
	return ps
}

// P14.2 to P14.10: random rows of calls, with crashes, fuses, openings and foreign writes among them, beside the plain store.
func TestRows(t *testing.T) {
	r := rand.New(rand.NewSource(6))
	for range 500 {
		sc := someScale(r)
		ps, data := many(r, sc, r.Intn(5))
		if len(ps) > 0 && r.Intn(4) == 0 { // one that no bytes have, but for a small width
			ps[r.Intn(len(ps))].Hash[31]++
		}
		size := need(ps) + r.Intn(3)
		d := made(t, size)
		if r.Intn(2) == 0 {
			d, _ = disk.Load(content(r, 64*size))
		}
		if r.Intn(3) == 0 {
			d.Fuse(r.Intn(len(ps) + 9))
		}
		x := begin(t, sc, d, someDark(r, ps))
		for range 100 {
			switch r.Intn(25) {
			default:
				x.some(r, ps, data)
			case 0:
				x.crash(flips(r, x.d), -1, 0, someDark(r, ps))
			case 1:
				n := len(x.d.Pending())
				x.crash(flips(r, x.d), r.Intn(n+1)-1, r.Intn(65), someDark(r, ps))
			case 2:
				x.fuse(r.Intn(8))
			case 3:
				x.open(someDark(r, ps))
			case 4:
				if r.Intn(4) == 0 {
					x.write(r.Intn(size), content(r, 64))
					x.open(someDark(r, ps))
				}
			}
		}
	}
}

// P14.3: which begins and lengths are just a block, at several scales; all others are refused.
func TestPutRange(t *testing.T) {
	r := rand.New(rand.NewSource(7))
	for _, sc := range []api.Scale{own, {Block: 128, Width: 32}} {
		for _, n := range []int{1, 63, 64, 65, 127, 128, 129, 191, 192, 200, 256, 300} {
			data := content(r, n)
			ps := []api.Piece{piece(sc, data, 8)}
			d := made(t, need(ps))
			s := opened(t, sc, d, ps)
			for at := -2 * sc.Block; at <= n+2*sc.Block; at++ {
				for size := range 2*sc.Block + 3 {
					want := api.ErrStoreRange
					if at >= 0 && at < n && at%sc.Block == 0 && size == min(sc.Block, n-at) {
						want = api.OK
					}
					if e := s.Put(0, at, make([]byte, size)); e != want {
						t.Fatalf("Put(0, %d, %d bytes) of a piece of %d = %d, want %d", at, size, n, e, want)
					}
				}
			}
			if m := len(d.Pending()); m != (n+63)/64 {
				t.Fatalf("%d writes for %d bytes", m, n)
			}
		}
	}
}

// P14.3: a block is laid into its sectors, rising, with zeros behind it, whatever lay there; a marked one is overwritten.
func TestPutSectors(t *testing.T) {
	r := rand.New(rand.NewSource(8))
	for block := 64; block <= 16384; block *= 4 {
		sc := api.Scale{Block: block, Width: 32}
		ahead, data := content(r, 3*block-1), content(r, 2*block+block/2+5)
		ps := []api.Piece{piece(sc, ahead, 4), piece(sc, data, 4), piece(sc, ahead, 8)}
		d, _ := disk.Load(content(r, 64*need(ps)))
		x := begin(t, sc, d, ps)
		first := 3 + 4 + (3*block-1+63)/64
		for _, at := range []int{block, 2 * block, 0, block} {
			was := len(d.Pending())
			b := data[at:min(len(data), at+block)]
			wants(t, "Put", x.put(1, at, b), api.OK)
			l := d.Pending()[was:]
			if len(l) != (len(b)+63)/64 || l[0] != first+at/64 || !slices.IsSorted(l) {
				t.Fatalf("Block %d: Put(1, %d) writes the sectors %v", block, at, l)
			}
		}
		end := d.Image()[64*first+len(data):]
		if spare := (64 - len(data)%64) % 64; !bytes.Equal(end[:spare], make([]byte, spare)) {
			t.Fatalf("Block %d: behind the last byte lies %v", block, end[:spare])
		}
		wants(t, "Finish", x.finish(1), api.OK)
	}
}

// P14.3, P14.5, P14.7: which error comes first.
func TestOrderOfRefusals(t *testing.T) {
	ps, r0, r1 := two()
	x := filled(t)
	wants(t, "had, and no block: Put", x.put(0, 1, nil), api.ErrStoreHave)
	wants(t, "no piece, and no block: Put", x.put(2, 1, nil), api.ErrStorePiece)
	wants(t, "no block marked: Finish", x.finish(1), api.ErrStoreLack)
	if _, e := x.read(1, -1, -1); e != api.ErrStoreLack {
		t.Errorf("not had, and no range: Read = %d", e)
	}
	if _, e := x.read(-1, -1, -1); e != api.ErrStorePiece {
		t.Errorf("no piece, and no range: Read = %d", e)
	}
	x.sync()
	x.open(dark(ps, 0, 1))
	wants(t, "unknown, claimed, and no block: Put", x.put(0, 1, nil), api.ErrStoreUnknown)
	wants(t, "unknown: Put", x.put(1, 0, r1), api.ErrStoreUnknown)
	wants(t, "unknown, and not marked: Finish", x.finish(1), api.ErrStoreUnknown)
	if _, e := x.read(0, 0, 1); e != api.ErrStoreLack {
		t.Errorf("unknown: Read = %d", e)
	}
	if had, e := x.learn(1, ps[1].Hash); had || e != api.OK {
		t.Errorf("not claimed: Learn = %v, %d", had, e)
	}
	if had, e := x.learn(1, ps[1].Hash); had || e != api.OK {
		t.Errorf("once more: Learn = %v, %d", had, e)
	}
	wants(t, "known now: Put", x.put(1, 0, r1), api.OK)
	wants(t, "known now: Finish", x.finish(1), api.OK)
	if had, e := x.learn(0, api.Hash{}); had || e != api.OK {
		t.Errorf("another hash, claimed: Learn = %v, %d", had, e)
	}
	if had, e := x.learn(0, ps[0].Hash); had || e != api.ErrStoreKnown {
		t.Errorf("another one is known: Learn = %v, %d", had, e)
	}
	x.puts(0, r0)
	wants(t, "of another hash: Finish", x.finish(0), api.ErrStoreBad)
	x.open(ps)
	x.shows(192, 224, 128)
}

// P14.4, P14.5: a wrong block anywhere makes the piece bad: its marks are gone, and it can be put anew; blocks of other pieces stay.
func TestBad(t *testing.T) {
	r := rand.New(rand.NewSource(9))
	data, other := content(r, 9*64+5), content(r, 3*64)
	ps := []api.Piece{piece(own, other, 4), piece(own, data, 16), piece(own, other, 8)}
	for at := range len(data) {
		x := begin(t, own, made(t, need(ps)), ps)
		x.put(0, 64, other[64:128])
		x.put(2, 128, other[128:])
		wrong := bytes.Clone(data)
		wrong[at] ^= 1 << r.Intn(8)
		x.puts(1, wrong)
		wants(t, "Finish", x.finish(1), api.ErrStoreBad)
		if b, _ := x.s.Blocks(1); !bytes.Equal(b, []byte{0, 0}) {
			t.Fatalf("Blocks(1) = %v", b)
		}
		if l := x.d.Pending(); slices.Contains(l, 1) {
			t.Fatalf("Pending %v: a wrong piece is claimed", l)
		}
		wants(t, "Finish again", x.finish(1), api.ErrStoreLack)
		if at%50 > 0 {
			continue
		}
		for from := 0; from < len(data); from += 64 {
			wants(t, "Finish", x.finish(1), api.ErrStoreLack)
			x.put(1, from, data[from:min(len(data), from+64)])
		}
		wants(t, "Finish", x.finish(1), api.OK)
	}
}

// P14.5: all 32 bytes of the hash count, at a small width too.
func TestWholeHash(t *testing.T) {
	for width := 1; width <= 32; width++ {
		sc := api.Scale{Block: 64, Width: width}
		for at := range 32 {
			p := piece(sc, []byte("abc"), 1)
			p.Hash[at] ^= 1
			x := begin(t, sc, made(t, 6), []api.Piece{p})
			x.puts(0, []byte("abc"))
			if n, e := x.recheck(); n != 0 || e != api.OK {
				t.Fatalf("with the byte %d changed, at the width %d: Recheck = %d, %d", at, width, n, e)
			}
			wants(t, "Finish", x.finish(0), api.ErrStoreBad)
		}
	}
}

// P14.5, P14.10: at a small width other bytes of the same hash are right, and are what Read answers.
func TestOtherBytes(t *testing.T) {
	sc := api.Scale{Block: 64, Width: 1}
	p := piece(sc, []byte("abc"), 1)
	twin := []byte{0, 0, 0}
	for root(sc, twin, 1) != p.Hash {
		twin[0]++
	}
	x := begin(t, sc, made(t, 6), []api.Piece{p})
	x.puts(0, twin)
	wants(t, "Finish", x.finish(0), api.OK)
	x.sync()
	x.open([]api.Piece{p})
	if b, e := x.read(0, 0, 3); e != api.OK || !bytes.Equal(b, twin) {
		t.Errorf("Read = %v, %d", b, e)
	}
}

// P14.7: all ranges of a piece.
func TestReadRange(t *testing.T) {
	_, r0, _ := two()
	x := filled(t)
	for at := -2; at < 134; at++ {
		for n := -2; n < 134; n++ {
			b, e := x.s.Read(0, at, n)
			if at < 0 || n < 0 || at+n > 130 {
				if len(b) != 0 || e != api.ErrStoreRange {
					t.Fatalf("Read(0, %d, %d) = %v, %d", at, n, b, e)
				}
			} else if e != api.OK || !bytes.Equal(b, r0[at:at+n]) {
				t.Fatalf("Read(0, %d, %d) = %v, %d", at, n, b, e)
			}
		}
	}
	for _, c := range [][2]int{{math.MaxInt, 1}, {math.MaxInt, math.MaxInt}, {1, math.MaxInt}, {math.MinInt, 0}, {0, math.MinInt}, {math.MinInt, math.MinInt}, {math.MinInt, math.MaxInt}, {math.MaxInt, math.MinInt}, {131, 0}, {131, -1}} {
		if b, e := x.read(0, c[0], c[1]); len(b) != 0 || e != api.ErrStoreRange {
			t.Errorf("Read(0, %d, %d) = %v, %d", c[0], c[1], b, e)
		}
	}
}

// P14.9: Recheck finds what is right, whatever is marked, and leaves the marks of the others.
func TestRecheck(t *testing.T) {
	r := rand.New(rand.NewSource(10))
	ps, data := many(r, own, 9)
	x := begin(t, own, made(t, need(ps)), ps)
	for i := range 6 {
		x.puts(i, data[i])
	}
	x.finish(2)
	x.sync()
	x.open(dark(ps, 1, 5))
	x.put(3, 0, bytes.Repeat([]byte{1}, min(64, len(data[3]))))
	x.put(4, 0, data[4][:min(64, len(data[4]))])
	if n, e := x.recheck(); n != 2 || e != api.OK || !bytes.Equal(x.s.Have(), []byte{128 + 32 + 8, 0}) {
		t.Fatalf("Recheck = %d, %d, Have %v", n, e, x.s.Have())
	}
	if b, _ := x.s.Blocks(3); b[0] != 128 {
		t.Errorf("the marks of what is not found: %v", b)
	}
	if had, e := x.learn(1, ps[1].Hash); had || e != api.OK {
		t.Errorf("right, but not claimed: Learn = %v, %d", had, e)
	}
	if n, e := x.recheck(); n != 1 || e != api.OK {
		t.Errorf("Recheck = %d, %d", n, e)
	}
	if n, e := x.recheck(); n != 0 || e != api.OK {
		t.Errorf("once more: Recheck = %d, %d", n, e)
	}
	x.sync()
	x.open(ps)
	if !bytes.Equal(x.s.Have(), []byte{128 + 64 + 32 + 8, 0}) {
		t.Errorf("Have %v", x.s.Have())
	}
}

// P14.5, P14.9: where the journal has no room for a claim, the piece stays as it was; one that is claimed is found all the same.
func TestFull(t *testing.T) {
	ps, r0, r1 := two()
	for _, c := range []struct {
		records []api.Record
		e0, e1  api.Errno
		n       int
		recheck api.Errno
		have    byte
	}{
		{records: slices.Repeat([]api.Record{{Kind: 9}}, 4), e0: api.ErrStoreFull, e1: api.ErrStoreFull, recheck: api.ErrStoreFull},
		{records: slices.Repeat([]api.Record{{Kind: 9}}, 3), e1: api.ErrStoreFull, n: 1, recheck: api.ErrStoreFull, have: 128},
		{records: slices.Repeat([]api.Record{{Kind: 9}}, 2), n: 2, have: 192},
		{records: append(slices.Repeat([]api.Record{{Kind: 9}}, 3), api.Record{Kind: 1, Data: []byte{0, 0, 0, 1}}), e0: api.ErrStoreFull, n: 1, recheck: api.ErrStoreFull, have: 64},
	} {
		foul := func() *watch {
			x := fresh(t)
			for _, d := range []*disk.Disk{x.d, x.p.d} {
				claims(d, 2, c.records...)
			}
			x.open(ps)
			x.puts(0, r0)
			x.puts(1, r1)
			return x
		}
		x := foul()
		wants(t, "Finish(0)", x.finish(0), c.e0)
		wants(t, "Finish(1)", x.finish(1), c.e1)
		x.shows(c.have, 224, 128)
		x = foul()
		if n, e := x.recheck(); n != c.n || e != c.recheck {
			t.Errorf("Recheck = %d, %d, want %d, %d", n, e, c.n, c.recheck)
		}
		x.shows(c.have, 224, 128)
		if n, e := x.recheck(); n != 0 || e != c.recheck {
			t.Errorf("once more: Recheck = %d, %d", n, e)
		}
	}
}

// P14.5: a journal whose numbers are used up refuses too.
func TestWorn(t *testing.T) {
	ps, r0, _ := two()
	x := fresh(t)
	const last = 4294967295
	x.write(1+(last-1)%5, record(last, 9, nil))
	x.open(ps)
	x.puts(0, r0)
	wants(t, "Finish(0)", x.finish(0), api.ErrStoreFull)
	if n, e := x.recheck(); n != 0 || e != api.ErrStoreFull {
		t.Errorf("Recheck = %d, %d", n, e)
	}
	x.shows(0, 224, 0)
}

// P14.5: each piece is claimed once, whatever comes; so there is room for all.
func TestRoomForAll(t *testing.T) {
	r := rand.New(rand.NewSource(11))
	for _, n := range []int{0, 1, 2, 20} {
		ps, data := many(r, own, n)
		x := begin(t, own, made(t, need(ps)), ps)
		for range 3 {
			for _, i := range r.Perm(n) {
				x.puts(i, data[i])
				wants(t, "Finish", x.finish(i), api.OK)
			}
			if m := len(x.p.j.Live()); m != n {
				t.Fatalf("%d claims for %d pieces", m, n)
			}
			x.sync()
			for i := range ps { // the bytes go, and the claims stay
				x.write(x.p.first(i), make([]byte, 64))
			}
			x.open(ps)
			if b := x.s.Have(); slices.ContainsFunc(b, func(c byte) bool { return c != 0 }) {
				t.Fatalf("Have %v", b)
			}
		}
	}
}

// P14.6: a hash is learnt once; whether the piece is had then hangs on its claim and its bytes; nothing is written.
func TestLearn(t *testing.T) {
	r := rand.New(rand.NewSource(16))
	data := [][]byte{content(r, 100), content(r, 100), content(r, 100)} // claimed and right; right alone; claimed alone
	var ps []api.Piece
	for _, b := range data {
		ps = append(ps, piece(own, b, 2))
	}
	x := begin(t, own, made(t, need(ps)), ps)
	for i, b := range data {
		x.puts(i, b)
	}
	x.finish(0)
	x.finish(2)
	x.sync()
	x.write(x.p.first(2)+1, make([]byte, 64))
	for _, h := range []api.Hash{{}, {31: 1}} {
		x.open(dark(ps, 0, 1, 2))
		if had, e := x.learn(0, h); had || e != api.OK {
			t.Errorf("a hash that its bytes have not: Learn = %v, %d", had, e)
		}
		if had, e := x.learn(0, ps[0].Hash); had || e != api.ErrStoreKnown {
			t.Errorf("then its own: Learn = %v, %d", had, e)
		}
	}
	x.open(dark(ps, 0, 1, 2))
	was := len(x.d.Pending())
	for range 2 {
		for i := range ps {
			if had, e := x.learn(i, ps[i].Hash); had != (i == 0) || e != api.OK {
				t.Errorf("Learn(%d) = %v, %d", i, had, e)
			}
		}
	}
	if b, _ := x.s.Blocks(0); b[0] != 192 || len(x.d.Pending()) != was {
		t.Errorf("Blocks(0) = %v, Pending %v", b, x.d.Pending())
	}
	x.puts(1, data[1])
	x.finish(1)
	if had, e := x.learn(1, ps[1].Hash); !had || e != api.OK {
		t.Errorf("had since: Learn(1) = %v, %d", had, e)
	}
}

// P14.8: Have has a bit for each piece, however many there are; Sync makes all last that was written, the claims too.
func TestHaveAndSync(t *testing.T) {
	r := rand.New(rand.NewSource(17))
	for n := range 18 {
		ps, data := many(r, own, n)
		x := begin(t, own, made(t, need(ps)), ps)
		if len(x.s.Have()) != (n+7)/8 {
			t.Fatalf("%d pieces: Have %v", n, x.s.Have())
		}
		for _, i := range r.Perm(n) {
			x.puts(i, data[i])
			x.finish(i)
			if b := x.s.Have(); b[i/8]>>(7-i%8)&1 != 1 {
				t.Fatalf("the piece %d of %d: Have %v", i, n, b)
			}
			if i%2 == 0 {
				wants(t, "Sync", x.sync(), api.OK)
				if !bytes.Equal(x.d.Durable(), x.d.Image()) || len(x.d.Pending()) != 0 {
					t.Fatalf("behind Sync there is Pending %v", x.d.Pending())
				}
			}
		}
		wants(t, "Sync", x.sync(), api.OK)
		have := x.s.Have()
		if x.crash(nil, -1, 0, ps); !bytes.Equal(x.s.Have(), have) {
			t.Fatalf("Have %v, then %v", have, x.s.Have())
		}
	}
}
