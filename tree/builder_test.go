package tree_test

import (
	"fmt"
	"math/rand"
	"testing"

	"torrent/api"
	"torrent/tree"
)

// build is a builder that must be there.
func build(t *testing.T, sc api.Scale, pieceLen int) *tree.Builder {
	t.Helper()
	b, e := tree.New(sc, pieceLen)
	if b == nil || e != api.OK {
		t.Fatalf("New(%v, %d): %v, %d", sc, pieceLen, b, e)
	}
	return b
}

// write hands bytes to a builder that must take them.
func write(t *testing.T, b *tree.Builder, p []byte) {
	t.Helper()
	if e := b.Write(p); e != api.OK {
		t.Fatalf("Write of %d bytes: %d", len(p), e)
	}
}

// checkBuilder holds what a builder answers against the trees of what it took, written out.
func checkBuilder(t *testing.T, b *tree.Builder, sc api.Scale, pieceLen int, data []byte) {
	t.Helper()
	call := fmt.Sprintf(" of a builder (%v, %d) with %d bytes", sc, pieceLen, len(data))
	if b.Len() != len(data) {
		t.Errorf("Len%s: %d", call, b.Len())
	}
	root, e := b.Root()
	if len(data) == 0 {
		noHash(t, "Root"+call, root, e, api.ErrEmpty)
	} else {
		isHash(t, "Root"+call, root, e, top(sc, leaves(sc, data), 0, 0))
	}
	row, e := b.Layer()
	isRow(t, "Layer"+call, row, e, layer(sc, pieceLen, data))
}

// P6.14: builders that are asked behind each single byte.
func TestBuilderBytes(t *testing.T) {
	data := content(rand.New(rand.NewSource(20)), 700)
	for per := 1; per <= 16; per *= 2 {
		b := build(t, own, per*64)
		checkBuilder(t, b, own, per*64, nil)
		for n := range data {
			write(t, b, data[n:n+1])
			checkBuilder(t, b, own, per*64, data[:n+1])
		}
	}
}

// P6.14: contents about the ends of blocks and pieces, in one write and in two that are cut about such ends.
func TestBuilderCuts(t *testing.T) {
	r := rand.New(rand.NewSource(21))
	for _, sc := range scales {
		for _, per := range []int{1, 2, 4} {
			for _, n := range lengths(sc, 9) {
				data := content(r, n)
				b := build(t, sc, per*sc.Block)
				write(t, b, data)
				checkBuilder(t, b, sc, per*sc.Block, data)
				for _, cut := range lengths(sc, 5) {
					if cut > n {
						continue
					}
					b := build(t, sc, per*sc.Block)
					write(t, b, data[:cut])
					write(t, b, data[cut:])
					checkBuilder(t, b, sc, per*sc.Block, data)
				}
			}
		}
	}
}

// P6.14: long contents in writes of any length, empty ones among them, the builder being asked now and then.
func TestBuilderMixed(t *testing.T) {
	r := rand.New(rand.NewSource(22))
	for range 300 {
		sc := scales[r.Intn(len(scales))]
		pieceLen := sc.Block << r.Intn(11)
		data := content(r, r.Intn(90*sc.Block))
		asked, silent := build(t, sc, pieceLen), build(t, sc, pieceLen)
		for at := 0; at < len(data); {
			n := min(len(data)-at, r.Intn([]int{3, sc.Block, 2*sc.Block + 2, 20 * sc.Block}[r.Intn(4)]))
			write(t, asked, data[at:at+n])
			write(t, silent, data[at:at+n])
			at += n
			if r.Intn(5) == 0 {
				checkBuilder(t, asked, sc, pieceLen, data[:at])
			}
		}
		checkBuilder(t, asked, sc, pieceLen, data)
		checkBuilder(t, silent, sc, pieceLen, data)
		checkBuilder(t, silent, sc, pieceLen, data)
	}
}

// P6.14: a piece as large as it may be, and the protocol's own scale.
func TestBuilderLarge(t *testing.T) {
	r := rand.New(rand.NewSource(23))
	data := content(r, 3*65536+100)
	for _, n := range []int{65535, 65536, 65537, 131071, 131072, 131073, len(data)} {
		b := build(t, own, 65536)
		write(t, b, data[:1000])
		write(t, b, data[1000:n])
		checkBuilder(t, b, own, 65536, data[:n])
	}
	sc := api.Scale{Block: 16384, Width: 32}
	for _, n := range []int{16384, 32768, 32769, 65537, len(data)} {
		b := build(t, sc, 32768)
		for _, p := range parts(data[:n], 10000) {
			write(t, b, p)
		}
		checkBuilder(t, b, sc, 32768, data[:n])
	}
}

// P6.14: as many blocks as there may be, then no byte more; a write that is refused leaves the builder as it was.
func TestBuilderLimit(t *testing.T) {
	t.Parallel()
	data := content(rand.New(rand.NewSource(24)), 64<<20+1)
	for _, pieceLen := range []int{64, 1024 * 64} {
		t.Run(fmt.Sprint(pieceLen), func(t *testing.T) {
			t.Parallel()
			b := build(t, own, pieceLen)
			refuse := func(n int) {
				t.Helper()
				size := b.Len()
				if e := b.Write(data[:n]); e != api.ErrMany || b.Len() != size {
					t.Errorf("Write of %d bytes behind %d: %d, Len %d", n, size, e, b.Len())
				}
			}
			refuse(64<<20 + 1)
			checkBuilder(t, b, own, pieceLen, nil)
			write(t, b, data[:100])
			refuse(64<<20 - 99)
			refuse(64 << 20)
			checkBuilder(t, b, own, pieceLen, data[:100])
			write(t, b, data[100:64<<20-1])
			refuse(2)
			write(t, b, data[64<<20-1:64<<20])
			refuse(1)
			refuse(64 << 20)
			write(t, b, nil)
			checkBuilder(t, b, own, pieceLen, data[:64<<20])
		})
	}
}

// P6.14: the limit is one of blocks, so that it hangs on the scale.
func TestBuilderMany(t *testing.T) {
	for _, sc := range []api.Scale{{Block: 128, Width: 32}, {Block: 256, Width: 1}} {
		b := build(t, sc, sc.Block)
		write(t, b, []byte("abc"))
		for _, n := range []int{api.MaxNodes*sc.Block - 2, api.MaxNodes * sc.Block, api.MaxNodes*sc.Block + 1} {
			if e := b.Write(make([]byte, n)); e != api.ErrMany || b.Len() != 3 {
				t.Errorf("Write of %d bytes at %v: %d, Len %d", n, sc, e, b.Len())
			}
		}
		write(t, b, make([]byte, 64<<14))
		if b.Len() != 3+64<<14 {
			t.Errorf("Len %d", b.Len())
		}
	}
}

// P6.15, P0.6: a builder that is nil; P0.1: one that New has not made.
func TestBuilderNil(t *testing.T) {
	var b *tree.Builder
	for _, p := range [][]byte{nil, {}, {1}, make([]byte, 1000)} {
		if e := b.Write(p); e != api.ErrNil {
			t.Errorf("Write to a nil builder: %d", e)
		}
	}
	root, e := b.Root()
	noHash(t, "Root of a nil builder", root, e, api.ErrNil)
	row, e := b.Layer()
	noRow(t, "Layer of a nil builder", row, e, api.ErrNil)
	if b.Len() != 0 {
		t.Errorf("Len of a nil builder: %d", b.Len())
	}
	for _, p := range [][]byte{nil, {1}, make([]byte, 1000)} {
		var b tree.Builder
		if e := b.Write(p); e != api.ErrScale || b.Len() != 0 {
			t.Errorf("Write to a builder of no scale: %d", e)
		}
		root, e := b.Root()
		noHash(t, "Root of a builder of no scale", root, e, api.ErrScale)
		row, e := b.Layer()
		noRow(t, "Layer of a builder of no scale", row, e, api.ErrScale)
	}
}

// P6.14: the example that the chapter writes out.
func TestBuilderExample(t *testing.T) {
	data := content(rand.New(rand.NewSource(25)), 129)
	b := build(t, own, 128)
	write(t, b, data[:70])
	root, e := b.Root()
	isHash(t, "Root", root, e, two(own, sum(own, data[:64]), sum(own, data[64:70])))
	write(t, b, data[70:128])
	row, e := b.Layer()
	noRow(t, "Layer of 128 bytes", row, e, api.OK)
	write(t, b, data[128:])
	row, e = b.Layer()
	isRow(t, "Layer of 129 bytes", row, e, []api.Hash{two(own, sum(own, data[:64]), sum(own, data[64:128])), two(own, sum(own, data[128:]), api.Hash{})})
}
