package meta_test

import (
	"math/rand"
	"slices"
	"strings"
	"testing"

	"torrent/api"
)

// torrent is a metainfo, as a text and as what it is read as, of files told by lengths and roots.
type torrent struct {
	sc api.Scale
	x  d
	m  api.Meta
}

func newTorrent(sc api.Scale, pieceLen int) *torrent {
	return &torrent{sc, outline(pieceLen, d{}, d{}), api.Meta{Name: "x", PieceLen: pieceLen}}
}

// file adds a file; the names must rise.
func (o *torrent) file(name string, length int, root api.Hash) *torrent {
	treeOf(o.x)[name] = told(length, string(root[:]))
	if length == 0 {
		treeOf(o.x)[name] = none
	}
	o.m.Files = append(o.m.Files, api.File{Path: []string{name}, Len: length, Root: root})
	return o
}

// layer adds a layer; the roots may come in any order.
func (o *torrent) layer(root api.Hash, hashes ...api.Hash) *torrent {
	layersOf(o.x)[string(root[:])] = glued(hashes)
	o.m.Layers = append(o.m.Layers, api.Layer{Root: root, Hashes: hashes})
	sortLayers(o.m)
	return o
}

func (o *torrent) ok(t *testing.T) {
	t.Helper()
	parses(t, o.sc, textOf(o.x), o.m)
}

func (o *torrent) noLayer(t *testing.T) {
	t.Helper()
	noText(t, o.sc, textOf(o.x), api.ErrMetaLayer)
	noMeta(t, o.sc, o.m, api.ErrMetaLayer)
}

func randomHash(r *rand.Rand, sc api.Scale) api.Hash {
	var h api.Hash
	r.Read(h[:sc.Width])
	return h
}

func randomHashes(r *rand.Rand, sc api.Scale, n int) []api.Hash {
	row := make([]api.Hash, n)
	for i := range row {
		row[i] = randomHash(r, sc)
	}
	return row
}

// P8.1, P8.2: layers of every number of pieces, at pieces of unlike lengths: the right one, and such as are no layer.
func TestLayers(t *testing.T) {
	r := rand.New(rand.NewSource(1))
	for _, sc := range scales {
		for _, per := range []int{1, 2, 8, 1024} {
			pieceLen := per * sc.Block
			for n := 2; n <= 18; n++ {
				hashes := randomHashes(r, sc, n)
				root := over(sc, pieceLen, hashes)
				for _, length := range []int{(n-1)*pieceLen + 1, n*pieceLen - 1, n * pieceLen} {
					one := func() *torrent { return newTorrent(sc, pieceLen).file("a", length, root) }
					one().ok(t)
					one().layer(root, hashes...).ok(t)
					one().layer(root).noLayer(t)
					one().layer(root, hashes[1:]...).noLayer(t)
					one().layer(root, append(slices.Clone(hashes), api.Hash{})...).noLayer(t)
					other := slices.Clone(hashes)
					other[r.Intn(n)][0]++
					if over(sc, pieceLen, other) != root {
						one().layer(root, other...).noLayer(t)
					}
				}
			}
		}
	}
}

// P8.1, P8.2: a layer is one of a large file alone: neither of a file that just fills a piece nor of none.
func TestLayerOfSmall(t *testing.T) {
	r := rand.New(rand.NewSource(2))
	hashes := randomHashes(r, own, 2)
	root := over(own, 128, hashes)
	for _, length := range []int{1, 64, 65, 127, 128} {
		for _, row := range [][]api.Hash{nil, {root}, hashes} {
			newTorrent(own, 128).file("a", length, root).layer(root, row...).noLayer(t)
			newTorrent(own, 128).file("a", length, root).file("b", 129, api.Hash{1}).layer(root, row...).noLayer(t)
		}
		// Beside a large one of the same root it does no harm.
		newTorrent(own, 128).file("a", length, root).file("b", 256, root).layer(root, hashes...).ok(t)
	}
	newTorrent(own, 128).file("a", 129, root).layer(root, hashes...).ok(t)
	zero := over(own, 128, nil)
	newTorrent(own, 128).file("a", 0, api.Hash{}).layer(api.Hash{}).noLayer(t)
	newTorrent(own, 128).file("a", 0, api.Hash{}).layer(zero, zero).noLayer(t)
	newTorrent(own, 128).file("a", 0, api.Hash{}).layer(root, hashes...).noLayer(t)
}

// P8.1: keys and values of `piece layers` that are not even of the form.
func TestLayerForm(t *testing.T) {
	r := rand.New(rand.NewSource(3))
	hashes := randomHashes(r, own, 2)
	root := over(own, 64, hashes)
	right := newTorrent(own, 64).file("a", 100, root).layer(root, hashes...)
	right.ok(t)
	key, val := string(root[:]), glued(hashes)
	for _, v := range []any{0, 64, l{}, l{val}, d{}, d{"": val}, "", val[1:], val[:32], val + "x", val + val, val[32:] + val[:32], strings.Repeat("x", 64)} {
		x := outline(64, d{"a": told(100, key)}, d{key: v})
		noText(t, own, textOf(x), api.ErrMetaLayer)
	}
	for _, k := range []string{"", "k", key[1:], key + "k", key[:31] + "\x00", strings.Repeat("\x00", 32), strings.Repeat("\xff", 33)} {
		x := outline(64, d{"a": told(100, key)}, d{key: val, k: val})
		noText(t, own, textOf(x), api.ErrMetaLayer)
		x = outline(64, d{"a": told(100, key)}, d{k: val})
		noText(t, own, textOf(x), api.ErrMetaLayer)
	}
}

// P8.1: a Key that is not 32 bytes long is not taken for the root of zeros, which a file at one byte may well have.
func TestLayerZeroRoot(t *testing.T) {
	r := rand.New(rand.NewSource(9))
	hashes := randomHashes(r, narrow, 2)
	for over(narrow, 64, hashes) != (api.Hash{}) {
		hashes = randomHashes(r, narrow, 2)
	}
	newTorrent(narrow, 64).file("a", 100, api.Hash{}).layer(api.Hash{}, hashes...).ok(t)
	zeros := strings.Repeat("\x00", 33)
	for _, key := range []string{"", "k", zeros[:31], zeros, zeros[:31] + "k"} {
		noText(t, narrow, textOf(outline(64, d{"a": told(100, zeros[:32])}, d{key: glued(hashes)})), api.ErrMetaLayer)
	}
}

// P8.1, P8.2: hashes that lead to the root, but are none at the scale.
func TestLayerWidth(t *testing.T) {
	r := rand.New(rand.NewSource(4))
	for width := 1; width <= 32; width++ {
		sc := api.Scale{Block: 64, Width: width}
		for at := range 32 {
			hashes := randomHashes(r, sc, 3)
			hashes[at%3][at] = 1
			root := over(sc, 64, hashes)
			o := newTorrent(sc, 64).file("a", 129, root).layer(root, hashes...)
			if at < width {
				o.ok(t)
			} else {
				o.noLayer(t)
			}
		}
	}
}

// P8.1, P8.2: several large files of one root: a layer must be one of each of them.
func TestLayerShared(t *testing.T) {
	r := rand.New(rand.NewSource(5))
	hashes := randomHashes(r, own, 3)
	root := over(own, 64, hashes)
	newTorrent(own, 64).file("a", 129, root).file("b", 192, root).file("c", 150, root).layer(root, hashes...).ok(t)
	for _, other := range []int{65, 128, 193, 256} {
		newTorrent(own, 64).file("a", 129, root).file("b", other, root).layer(root, hashes...).noLayer(t)
		newTorrent(own, 64).file("a", other, root).file("b", 192, root).layer(root, hashes...).noLayer(t)
		newTorrent(own, 64).file("a", 129, root).file("b", other, root).ok(t)
	}
	// At one byte two rows of unlike lengths that lead to one root are easily found: still none is a layer of both files.
	long := randomHashes(r, narrow, 3)
	short := randomHashes(r, narrow, 2)
	for over(narrow, 64, short) != over(narrow, 64, long) {
		short = randomHashes(r, narrow, 2)
	}
	root = over(narrow, 64, long)
	newTorrent(narrow, 64).file("a", 128, root).layer(root, short...).ok(t)
	newTorrent(narrow, 64).file("a", 192, root).layer(root, long...).ok(t)
	newTorrent(narrow, 64).file("a", 128, root).file("b", 192, root).ok(t)
	newTorrent(narrow, 64).file("a", 128, root).file("b", 192, root).layer(root, short...).noLayer(t)
	newTorrent(narrow, 64).file("a", 128, root).file("b", 192, root).layer(root, long...).noLayer(t)
}

// P8.1, P8.2: of several layers one that is none is found wherever it stands.
func TestLayerAmong(t *testing.T) {
	r := rand.New(rand.NewSource(6))
	for bad := -1; bad < 5; bad++ {
		o := newTorrent(own, 64)
		for i := range 5 {
			hashes := randomHashes(r, own, 2+i)
			root := over(own, 64, hashes)
			o.file(string(rune('a'+i)), 64*(2+i), root)
			if i == bad {
				hashes[i%2][3]++
			}
			o.layer(root, hashes...)
		}
		if bad < 0 {
			o.ok(t)
		} else {
			o.noLayer(t)
		}
	}
}

// P8.1, P8.2: the longest layers that there is room for in a text.
func TestLayerLong(t *testing.T) {
	r := rand.New(rand.NewSource(7))
	for _, n := range []int{32000, 32760} {
		hashes := randomHashes(r, own, n)
		root := over(own, 64, hashes)
		newTorrent(own, 64).file("a", 64*n, root).layer(root, hashes...).ok(t)
		hashes[n-1][0]++
		newTorrent(own, 64).file("a", 64*n, root).layer(root, hashes...).noLayer(t)
	}
}
