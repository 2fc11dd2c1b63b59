package meta_test

import (
	"bytes"
	"crypto/sha256"
	"fmt"
	"maps"
	"math/rand"
	"slices"
	"strings"
	"testing"

	"torrent/api"
	"torrent/meta"
)

// maker makes metainfos at random, as texts and as what they are read as.
type maker struct {
	r        *rand.Rand
	sc       api.Scale
	pieceLen int
	files    []api.File
	layers   d
}

func (k *maker) name() string {
	return []string{"a", "a!", "A", "b", "a b", "é", "...", "-", "zz", "\u2028", strings.Repeat("n", 255)}[k.r.Intn(11)]
}

// value is a value of any kind.
func (k *maker) value(deep int) any {
	switch k.r.Intn(4) {
	case 0:
		return k.r.Intn(2000) - 1000
	case 1:
		return string(content(k.r, k.r.Intn(5)))
	case 2:
		all := l{}
		for range k.r.Intn(3) * deep {
			all = append(all, k.value(deep-1))
		}
		return all
	}
	return k.free(deep)
}

// free are pairs whose keys are none of these.
func (k *maker) free(deep int, taken ...string) d {
	x := d{}
	for range k.r.Intn(3) * min(deep, 1) {
		key := []string{"", "info", "piece layers", "file tree", "name", "files", "length", "pieces", "pieces root", "private", "\x00", "\xff\xfe"}[k.r.Intn(12)]
		if !slices.Contains(taken, key) {
			x[key] = k.value(deep - 1)
		}
	}
	return x
}

// file is a file's entry; what is told of it is put behind the other files.
func (k *maker) file(path []string) d {
	f := api.File{Path: path}
	x := k.free(2, "length", "pieces root")
	f.More = pairsOf(x)
	f.Len = k.r.Intn(2) * k.r.Intn(6*k.pieceLen)
	x["length"] = f.Len
	if f.Len > 0 {
		n := (f.Len + k.pieceLen - 1) / k.pieceLen
		hashes := randomHashes(k.r, k.sc, n)
		f.Root = over(k.sc, k.pieceLen, hashes)
		x["pieces root"] = string(f.Root[:])
		if _, there := k.layers[string(f.Root[:])]; n > 1 && !there && k.r.Intn(3) > 0 && k.sc.Width > 4 {
			k.layers[string(f.Root[:])] = glued(hashes)
		}
	}
	k.files = append(k.files, f)
	return d{"": x}
}

// folder is a folder of files and folders, made in the order of their names.
func (k *maker) folder(path []string) d {
	x := d{k.name(): 0}
	for range k.r.Intn(4) {
		x[k.name()] = 0
	}
	for _, name := range slices.Sorted(maps.Keys(x)) {
		next := append(slices.Clone(path), name)
		if len(next) < 16 && k.r.Intn(3) == 0 {
			x[name] = k.folder(next)
		} else {
			x[name] = k.file(next)
		}
	}
	return x
}

func (k *maker) torrent() (d, api.Meta) {
	k.sc = scales[k.r.Intn(len(scales))]
	k.pieceLen = k.sc.Block << k.r.Intn(11)
	k.files, k.layers = nil, d{}
	m := api.Meta{Name: k.name(), PieceLen: k.pieceLen}
	info := k.free(3, "file tree", "meta version", "name", "piece length", "files", "length", "pieces")
	m.Info = pairsOf(info)
	x := k.free(3, "info", "piece layers")
	m.Top = pairsOf(x)
	info["file tree"], info["meta version"], info["name"], info["piece length"] = k.folder(nil), 2, m.Name, m.PieceLen
	x["info"], x["piece layers"] = info, k.layers
	m.Files = k.files
	for _, root := range slices.Sorted(maps.Keys(k.layers)) {
		one := api.Layer{Root: api.Hash([]byte(root))}
		for h := range slices.Chunk([]byte(k.layers[root].(string)), 32) {
			one.Hashes = append(one.Hashes, api.Hash(h))
		}
		m.Layers = append(m.Layers, one)
	}
	return x, m
}

// P8.1, P8.3, P8.4, P8.5, P8.6: metainfos of all kinds.
func TestRandom(t *testing.T) {
	k := &maker{r: rand.New(rand.NewSource(10))}
	for range 1500 {
		x, m := k.torrent()
		text := textOf(x)
		parses(t, k.sc, text, m)
		h, e := meta.Infohash(k.sc, []byte(text))
		if want := sum(k.sc, []byte(textOf(x["info"]))); e != api.OK || h != want {
			t.Fatalf("Infohash(%.300q) = %x, %d, want %x", text, h, e, want)
		}
		var want []int
		for i, f := range m.Files {
			if _, there := k.layers[string(f.Root[:])]; f.Len > m.PieceLen && !there {
				want = append(want, i)
			}
		}
		if lacks, e := meta.Lacks(k.sc, m); e != api.OK || !slices.Equal(lacks, want) {
			t.Fatalf("Lacks of %.300q = %v, %d, want %v", text, lacks, e, want)
		}
	}
}

// P8.4: texts in which something has been changed: what is still read can be written again byte for byte, and nothing else is answered with an error.
func TestMutated(t *testing.T) {
	r := rand.New(rand.NewSource(11))
	k := &maker{r: r}
	read := 0
	for range 400 {
		x, _ := k.torrent()
		text := []byte(textOf(x))
		for range 60 {
			b := slices.Clone(text)
			for range 1 + r.Intn(2) {
				at := r.Intn(len(b))
				switch r.Intn(3) {
				case 0:
					b[at] = "0123456789deil:abn\x00\xff"[r.Intn(20)]
				case 1:
					b = slices.Delete(b, at, at+1)
				case 2:
					from := r.Intn(len(b))
					b = slices.Concat(b[:at], b[from:min(len(b), from+r.Intn(30))], b[at:])
				}
			}
			m, e := meta.Parse(k.sc, b)
			if e != api.OK {
				noText(t, k.sc, string(b), e)
				continue
			}
			read++
			parses(t, k.sc, string(b), m)
		}
	}
	if read < 500 {
		t.Errorf("only %d texts were read", read)
	}
}

// P8.4: metainfos in which something has been changed: what may be is read again as it was.
func TestChanged(t *testing.T) {
	r := rand.New(rand.NewSource(12))
	k := &maker{r: r}
	good := 0
	for range 3000 {
		_, m := k.torrent()
		f := &m.Files[r.Intn(len(m.Files))]
		switch r.Intn(8) {
		case 0:
			f.Path[r.Intn(len(f.Path))] = []string{k.name(), "", "/", "\xc3"}[r.Intn(4)]
		case 1:
			f.Path = append(f.Path, k.name())
		case 2:
			f.Path = f.Path[1:]
		case 3:
			f.Len = r.Intn(10*m.PieceLen) - 1
		case 4:
			f.Root[r.Intn(32)] = byte(r.Intn(256))
		case 5:
			f.More = pairsOf(k.free(4))
		case 6:
			m.Info, m.Top = pairsOf(k.free(4)), pairsOf(k.free(4))
		case 7:
			m.Layers = slices.DeleteFunc(m.Layers, func(api.Layer) bool { return r.Intn(2) == 0 })
		}
		b, e := meta.Print(k.sc, m)
		if e != api.OK {
			noMeta(t, k.sc, m, e)
			continue
		}
		good++
		parses(t, k.sc, string(b), m)
	}
	if good < 500 {
		t.Errorf("only %d metainfos were written", good)
	}
}

// P8.5: the bytes are those of the value of `info` in the outermost dictionary, wherever else that key is.
func TestInfohash(t *testing.T) {
	x := sample()
	x["a"] = d{"info": infoOf(sample())}
	infoOf(x)["info"] = d{"info": d{}}
	text, info := []byte(textOf(x)), textOf(x["info"])
	for _, width := range []int{1, 2, 31, 32} {
		sc := api.Scale{Block: 64, Width: width}
		m := outline(64, d{"a": none}, d{})
		h, e := meta.Infohash(sc, []byte(textOf(m)))
		if e != api.OK || h != sum(sc, []byte(textOf(m["info"]))) {
			t.Errorf("Infohash at the width %d: %x, %d", width, h, e)
		}
	}
	h, e := meta.Infohash(own, text)
	if e != api.OK || h != api.Hash(sha256.Sum256([]byte(info))) {
		t.Errorf("Infohash = %x, %d", h, e)
	}
	// Neither the layers nor the other keys of the outermost dictionary count.
	clear(layersOf(x))
	delete(x, "comment")
	if g, e := meta.Infohash(own, []byte(textOf(x))); e != api.OK || g != h {
		t.Errorf("Infohash without the layers = %x, %d", g, e)
	}
	infoOf(x)["private"] = 0
	if g, e := meta.Infohash(own, []byte(textOf(x))); e != api.OK || g == h {
		t.Errorf("Infohash of another info dictionary = %x, %d", g, e)
	}
	// A scale at which the roots are no hashes refuses.
	noText(t, narrow, textOf(x), api.ErrMetaRoot)
}

// P8.3: what is written for a file that has a root of zeros, and for one that is empty.
func TestPrintRoots(t *testing.T) {
	m := api.Meta{Name: "n", PieceLen: 64, Files: []api.File{{Path: []string{"a"}, Len: 1}, {Path: []string{"b"}}}}
	want := "d4:infod9:file treed1:ad0:d6:lengthi1e11:pieces root32:" + strings.Repeat("\x00", 32) + "ee1:bd0:d6:lengthi0eeee12:meta versioni2e4:name1:n12:piece lengthi64ee12:piece layersdee"
	parses(t, own, want, m)
}

// P8.6: the places of the large files without a layer; two files of one root have one layer.
func TestLacks(t *testing.T) {
	r := rand.New(rand.NewSource(13))
	one, other := randomHashes(r, own, 2), randomHashes(r, own, 3)
	a, b := over(own, 64, one), over(own, 64, other)
	base := func() *torrent {
		return newTorrent(own, 64).file("a", 65, a).file("b", 64, b).file("c", 192, b).file("d", 0, api.Hash{}).file("e", 128, a).file("f", 1, a)
	}
	for _, c := range []struct {
		o    *torrent
		want []int
	}{
		{base(), []int{0, 2, 4}}, {base().layer(a, one...), []int{2}}, {base().layer(b, other...), []int{0, 4}}, {base().layer(a, one...).layer(b, other...), nil},
		{newTorrent(own, 64).file("a", 64, a), nil}, {newTorrent(own, 64).file("a", 0, api.Hash{}), nil},
	} {
		if lacks, e := meta.Lacks(own, c.o.m); e != api.OK || !slices.Equal(lacks, c.want) {
			t.Errorf("Lacks = %v, %d, want %v", lacks, e, c.want)
		}
	}
}

// P8.7: layers supplied in every order come to the same; what may not be supplied is refused.
func TestSupply(t *testing.T) {
	r := rand.New(rand.NewSource(14))
	o := newTorrent(own, 64)
	rows := map[int][]api.Hash{}
	for i := range 6 {
		rows[i] = randomHashes(r, own, 2+i)
		o.file(fmt.Sprint(i), 64*(2+i), over(own, 64, rows[i]))
	}
	whole := newTorrent(own, 64)
	for i := range 6 {
		whole.file(fmt.Sprint(i), 64*(2+i), over(own, 64, rows[i])).layer(over(own, 64, rows[i]), rows[i]...)
	}
	for range 100 {
		m := o.m
		left := r.Perm(6)
		for len(left) > 0 {
			i := left[0]
			n, e := meta.Supply(own, m, i, rows[i])
			if e != api.OK || len(n.Layers) != len(m.Layers)+1 {
				t.Fatalf("Supply of %d: %d", i, e)
			}
			if again, e := meta.Supply(own, n, i, rows[i]); e != api.ErrMetaLayer || !same(again, api.Meta{}) {
				t.Fatalf("Supply of %d once more: %d", i, e)
			}
			left = left[1:]
			if lacks, e := meta.Lacks(own, n); e != api.OK || !slices.Equal(lacks, slices.Sorted(slices.Values(left))) {
				t.Fatalf("Lacks = %v, %d, want %v", lacks, e, left)
			}
			m = n
		}
		if !same(m, whole.m) {
			t.Fatalf("all layers: %s, want %s", short(m), short(whole.m))
		}
	}
}

// P8.7: all else of the metainfo stays as it is.
func TestSupplySample(t *testing.T) {
	_, c, _, _ := sampleFiles()
	want, root := sampleMeta(), rootOf(own, c)
	m := sampleMeta()
	m.Layers = slices.DeleteFunc(m.Layers, func(x api.Layer) bool { return x.Root == root })
	if n, e := meta.Supply(own, m, 1, layerOf(own, 128, c)); e != api.OK || !same(n, want) {
		t.Errorf("Supply = %s, %d, want %s", short(n), e, short(want))
	}
}

// P8.7: what is refused, and in which order.
func TestSupplyRefused(t *testing.T) {
	a, c, e, _ := sampleFiles()
	rowA, rowC := layerOf(own, 128, a), layerOf(own, 128, c)
	bare := func() api.Meta { m := sampleMeta(); m.Layers = nil; return m }
	half := func() api.Meta {
		n, e := meta.Supply(own, bare(), 0, rowA)
		if e != api.OK {
			t.Fatal(e)
		}
		return n
	}
	deep := bare()
	deep.Top = pairsOf(d{"k": nest(32)})
	flawed := bare()
	flawed.Name = ""
	wrong := slices.Clone(rowA)
	wrong[2][31]++
	for i, x := range []struct {
		m      api.Meta
		file   int
		hashes []api.Hash
		want   api.Errno
	}{
		{flawed, -1, nil, api.ErrNameEmpty}, {flawed, 0, rowA, api.ErrNameEmpty}, {deep, 0, rowA, api.ErrTextDepth}, {api.Meta{}, 0, nil, api.ErrMetaPiece},
		{bare(), -1, rowA, api.ErrArg}, {bare(), 5, rowA, api.ErrArg}, {bare(), 1 << 62, nil, api.ErrArg}, {bare(), -1 << 63, nil, api.ErrArg}, {sampleMeta(), 5, nil, api.ErrArg},
		{bare(), 2, nil, api.ErrMetaLayer}, {bare(), 2, rowA, api.ErrMetaLayer}, {bare(), 3, []api.Hash{rootOf(own, e)}, api.ErrMetaLayer}, {bare(), 4, rowA, api.ErrMetaLayer},
		{bare(), 0, rowC, api.ErrMetaLayer}, {bare(), 0, nil, api.ErrMetaLayer}, {bare(), 0, rowA[:2], api.ErrMetaLayer}, {bare(), 0, append(slices.Clone(rowA), api.Hash{}), api.ErrMetaLayer}, {bare(), 0, wrong, api.ErrMetaLayer}, {bare(), 1, rowA, api.ErrMetaLayer},
		{half(), 0, rowA, api.ErrMetaLayer}, {half(), 0, wrong, api.ErrMetaLayer}, {sampleMeta(), 1, rowC, api.ErrMetaLayer},
	} {
		if n, e := meta.Supply(own, x.m, x.file, x.hashes); e != x.want || !same(n, api.Meta{}) {
			t.Errorf("case %d: Supply(%d) = %d, want %d", i, x.file, e, x.want)
		}
	}
	// Hashes that lead to the root and are none at the scale.
	row := []api.Hash{{1}, {0, 9}}
	o := newTorrent(narrow, 64).file("a", 100, over(narrow, 64, row))
	if n, e := meta.Supply(narrow, o.m, 0, row); e != api.ErrMetaLayer || !same(n, api.Meta{}) {
		t.Errorf("Supply of foreign hashes: %d", e)
	}
}

// P8.7: a layer for which there is just room in the text, and one for which there is not.
func TestSupplyRoom(t *testing.T) {
	a, _, _, _ := sampleFiles()
	m := sampleMeta()
	m.Layers = nil
	b, _ := meta.Print(own, m)
	added := len("32:") + 32 + len("96:") + 96
	fill := func(n int) api.Meta {
		m := m
		m.Top = pairsOf(d{"comment": l{"hello", -7, d{"k": d{}}}, "fill": strings.Repeat("x", n)})
		return m
	}
	room := api.MaxText - len(b) - len("4:fill") - len("1000000:") - added
	n, e := meta.Supply(own, fill(room), 0, layerOf(own, 128, a))
	text, _ := meta.Print(own, n)
	if e != api.OK || len(text) != api.MaxText || !bytes.Contains(text, []byte("96:")) {
		t.Errorf("Supply with just the room: %d, %d bytes", e, len(text))
	}
	if n, e := meta.Supply(own, fill(room+1), 0, layerOf(own, 128, a)); e != api.ErrTextLong || !same(n, api.Meta{}) {
		t.Errorf("Supply with a byte less room: %d", e)
	}
	if e := meta.Check(own, fill(room+1)); e != api.OK {
		t.Errorf("Check without the layer: %d", e)
	}
}
