package engine_test

import (
	"math/rand"
	"testing"

	"torrent/api"
	"torrent/engine"
	"torrent/meta"
)

// P20.1, P20.5: what the sizes hang on, with and without piece layers.
func TestSizes(t *testing.T) {
	r := rand.New(rand.NewSource(61))
	for range 300 {
		x := randomTorrent(r)
		calm := 8*3*9 + 2*x.blocks() + 2*len(x.pieces) + 16
		for _, text := range [][]byte{x.text, x.bare()} {
			if n, e := engine.Sectors(x.sc, text); n != x.need() || e != api.OK {
				t.Fatalf("Sectors = %d, %d, want %d", n, e, x.need())
			}
			if n, e := engine.Calm(x.sc, text); n != calm || e != api.OK {
				t.Fatalf("Calm = %d, %d, want %d", n, e, calm)
			}
		}
	}
}

// P20.1, P20.5: a torrent that is too large for any disk has its sizes, too.
func TestHugeSizes(t *testing.T) {
	sc := api.Scale{Block: 16384, Width: 32}
	m := api.Meta{Name: "t", PieceLen: 16384 * 1024, Files: []api.File{{Path: []string{"a"}, Len: api.MaxLen, Root: api.Hash{1}}}}
	text, e := meta.Print(sc, m)
	wants(t, "Print", e, api.OK)
	if n, e := engine.Sectors(sc, text); n != 4+65536+api.MaxLen/64 || e != api.OK {
		t.Errorf("Sectors = %d, %d", n, e)
	}
	if n, e := engine.Calm(sc, text); n != 216+2*(api.MaxLen/16384)+2*65536+16 || e != api.OK {
		t.Errorf("Calm = %d, %d", n, e)
	}
	if r, e := engine.Run(sc, text, api.Hash{}, 6, nil); e != api.OK || r.Start != api.ErrWrong || !isNothing(r) {
		t.Errorf("Run = %v, %d", r, e)
	}
	info, _ := meta.Infohash(sc, text)
	if r, e := engine.Run(sc, text, info, api.MaxSectors, nil); e != api.OK || r.Start != api.ErrStoreDisk || !isNothing(r) {
		t.Errorf("Run = %v, %d", r, e)
	}
}

// P20.1, P20.5, P0.2, P0.8: the scale is looked at first, then the text.
func TestSizesRefused(t *testing.T) {
	x := abc(t)
	for _, c := range []struct {
		sc   api.Scale
		text string
		want api.Errno
	}{
		{api.Scale{}, string(x.text), api.ErrScale},
		{api.Scale{}, "", api.ErrScale},
		{api.Scale{Block: 96, Width: 32}, "", api.ErrScale},
		{api.Scale{Block: 64, Width: 33}, string(x.text), api.ErrScale},
		{own, "", api.ErrTextEnd},
		{own, "i0e", api.ErrMetaShape},
		{own, string(x.text) + "e", api.ErrTextTrail},
		{api.Scale{Block: 128, Width: 32}, string(x.text), api.ErrMetaPiece},
		{api.Scale{Block: 64, Width: 31}, string(x.text), api.ErrMetaRoot},
	} {
		if n, e := engine.Sectors(c.sc, []byte(c.text)); n != 0 || e != c.want {
			t.Errorf("Sectors(%v, %q) = %d, %d, want %d", c.sc, c.text, n, e, c.want)
		}
		if n, e := engine.Calm(c.sc, []byte(c.text)); n != 0 || e != c.want {
			t.Errorf("Calm(%v, %q) = %d, %d, want %d", c.sc, c.text, n, e, c.want)
		}
	}
}
