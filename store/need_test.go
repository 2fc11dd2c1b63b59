package store_test

import (
	"math"
	"math/rand"
	"slices"
	"testing"

	"torrent/api"
	"torrent/store"
)

// needs fails the test unless Need answers that.
func needs(t *testing.T, sc api.Scale, ps []api.Piece, want int, wantE api.Errno) {
	t.Helper()
	if n, e := store.Need(sc, ps); n != want || e != wantE {
		t.Errorf("Need(%v, %d pieces) = %d, %d, want %d, %d", sc, len(ps), n, e, want, wantE)
	}
}

// refuses fails the test unless Need and Open, be there a disk or not, refuse the list so.
func refuses(t *testing.T, sc api.Scale, ps []api.Piece, want api.Errno) {
	t.Helper()
	needs(t, sc, ps, 0, want)
	d := made(t, 9)
	for range 2 {
		if s, e := store.Open(sc, d, torrent, ps); s != nil || e != want {
			t.Errorf("Open(%v, %d pieces) = %v, %d, want %d", sc, len(ps), s, e, want)
		}
		if d != nil && len(d.Pending()) != 0 {
			t.Error("Open writes to a disk that it refuses")
		}
		d = nil
	}
}

// P14.1: which pieces there may be, at all scales.
func TestNeedPiece(t *testing.T) {
	for block := 64; block <= 16384; block *= 2 {
		for _, width := range []int{1, 31, 32} {
			sc := api.Scale{Block: block, Width: width}
			for leaves := 1; leaves <= 1024; leaves *= 2 {
				for _, n := range []int{1, 63, 64, 65, leaves * block / 2, leaves*block - 1, leaves * block} {
					if n <= leaves*block {
						needs(t, sc, []api.Piece{{Len: n, Leaves: leaves}}, 5+(n+63)/64, api.OK)
					}
				}
				for _, n := range []int{math.MinInt, -leaves * block, -64, -1, 0, leaves*block + 1, 2 * leaves * block, math.MaxInt} {
					refuses(t, sc, []api.Piece{{Len: n, Leaves: leaves}}, api.ErrStorePiece)
				}
			}
			for _, leaves := range []int{math.MinInt, -1024, -2, -1, 0, 3, 5, 6, 1023, 1025, 1536, 2048, 1 << 32, 1 << 62, math.MaxInt} {
				refuses(t, sc, []api.Piece{{Len: 1, Leaves: leaves, Known: true}}, api.ErrStorePiece)
			}
		}
	}
}

// P14.1: whole lists; one wrong piece anywhere is enough.
func TestNeedList(t *testing.T) {
	r := rand.New(rand.NewSource(2))
	for range 200 {
		ps := make([]api.Piece, r.Intn(12))
		sum := len(ps) + 4
		for i := range ps {
			leaves := 1 << r.Intn(11)
			ps[i] = api.Piece{Len: 1 + r.Intn(64*leaves), Leaves: leaves, Known: r.Intn(2) > 0}
			sum += int(math.Ceil(float64(ps[i].Len) / 64))
		}
		needs(t, own, ps, sum, api.OK)
		if len(ps) > 0 {
			ps[r.Intn(len(ps))].Leaves = 0
			refuses(t, own, ps, api.ErrStorePiece)
		}
	}
	most := slices.Repeat([]api.Piece{{Len: 1024 * 16384, Leaves: 1024}}, 65536)
	needs(t, api.Scale{Block: 16384, Width: 32}, most, 65536+4+65536*262144, api.OK)
	refuses(t, api.Scale{Block: 16384, Width: 32}, append(most, most[0]), api.ErrStorePiece)
}

// P0.8, P14.1, P14.2: the scale is looked at first, then the list, then the disk.
func TestOrderOfErrors(t *testing.T) {
	ps, _, _ := two()
	for _, sc := range []api.Scale{{}, {Block: 32, Width: 32}, {Block: 96, Width: 32}, {Block: 32768, Width: 32}, {Block: -64, Width: 32}, {Block: 64}, {Block: 64, Width: 33}, {Block: 64, Width: -1}} {
		refuses(t, sc, ps, api.ErrScale)
		refuses(t, sc, []api.Piece{{}}, api.ErrScale)
		refuses(t, sc, nil, api.ErrScale)
	}
	refuses(t, own, []api.Piece{{}}, api.ErrStorePiece)
	other := fresh(t).d
	if s, e := store.Open(own, other, api.Hash{}, append(ps, ps...)); s != nil || e != api.ErrStoreDisk {
		t.Errorf("too small, and of another torrent: Open = %v, %d", s, e)
	}
}
