package proof_test

import (
	"bytes"
	"fmt"
	"math/rand"
	"slices"
	"testing"

	"torrent/api"
	"torrent/proof"
)

// cut are the blocks of a content.
func cut(sc api.Scale, data []byte) [][]byte {
	return slices.Collect(slices.Chunk(data, sc.Block))
}

// leaves are the digests of the blocks.
func leaves(sc api.Scale, data []byte) []api.Hash {
	var row []api.Hash
	for _, b := range cut(sc, data) {
		row = append(row, sum(sc, b))
	}
	return row
}

// collision is Collide by the words of the chapter, of unlike contents of one length; with it comes the level at which the texts were found, 0 for blocks.
func collision(sc api.Scale, a, b []byte) (u, v []byte, level int, e api.Errno) {
	x, y := grown(sc, 0, leaves(sc, a)), grown(sc, 0, leaves(sc, b))
	if x[len(x)-1][0] != y[len(y)-1][0] {
		return nil, nil, 0, api.ErrApart
	}
	others := cut(sc, b)
	for i, block := range cut(sc, a) {
		if !bytes.Equal(block, others[i]) && sum(sc, block) == sum(sc, others[i]) {
			return block, others[i], 0, api.OK
		}
	}
	for l := 1; l < len(x); l++ {
		for p := range x[l] {
			below := slices.Concat(x[l-1][2*p][:], x[l-1][2*p+1][:])
			other := slices.Concat(y[l-1][2*p][:], y[l-1][2*p+1][:])
			if x[l][p] == y[l][p] && !bytes.Equal(below, other) {
				return below, other, l, api.OK
			}
		}
	}
	panic("two unlike contents of one root, and no collision")
}

// checkCollide holds Collide of two unlike contents of one length against the words of the chapter, both ways round. It answers the level of the collision; -1, if the roots are apart.
func checkCollide(t *testing.T, sc api.Scale, a, b []byte) int {
	t.Helper()
	u, v, level, want := collision(sc, a, b)
	for range 2 {
		x, y, e := proof.Collide(sc, a, b)
		if e != want || !bytes.Equal(x, u) || !bytes.Equal(y, v) {
			t.Errorf("Collide at %v of %d bytes: %x, %x, %d, want %x, %x, %d", sc, len(a), x, y, e, u, v, want)
		}
		if want == api.OK && (bytes.Equal(x, y) || sum(sc, x) != sum(sc, y)) {
			t.Errorf("Collide at %v of %d bytes: %x, %x are no collision", sc, len(a), x, y)
		}
		a, b, u, v = b, a, v, u
	}
	if want != api.OK {
		return -1
	}
	return level
}

// table tells, for each digest of one byte, blocks that have it and pairs of such digests whose node has it.
type table struct {
	blocks [256][][]byte
	pairs  [256][][2]byte
}

func newTable(r *rand.Rand) *table {
	var y table
	for range 5000 {
		b := content(r, 64)
		d := sum(narrow, b)[0]
		y.blocks[d] = append(y.blocks[d], b)
	}
	for i := range 65536 {
		l, r := byte(i>>8), byte(i)
		d := two(narrow, api.Hash{l}, api.Hash{r})[0]
		y.pairs[d] = append(y.pairs[d], [2]byte{l, r})
	}
	return &y
}

func (y *table) block(r *rand.Rand, d byte) []byte { return y.blocks[d][r.Intn(len(y.blocks[d]))] }

func (y *table) pair(r *rand.Rand, d byte) [2]byte { return y.pairs[d][r.Intn(len(y.pairs[d]))] }

// grow is a content of 2^height blocks with that root.
func (y *table) grow(r *rand.Rand, height int, d byte) []byte {
	if height == 0 {
		return y.block(r, d)
	}
	p := y.pair(r, d)
	return slices.Concat(y.grow(r, height-1, p[0]), y.grow(r, height-1, p[1]))
}

// twins are two contents of 2^height blocks with that root: the same ones, or such as part at a node, at several, or at all.
func (y *table) twins(r *rand.Rand, height int, d byte) ([]byte, []byte) {
	switch {
	case r.Intn(4) == 0:
		a := y.grow(r, height, d)
		return a, a
	case height == 0 || r.Intn(4) == 0:
		return y.grow(r, height, d), y.grow(r, height, d)
	}
	p := y.pair(r, d)
	a, b := y.twins(r, height-1, p[0])
	c, e := y.twins(r, height-1, p[1])
	return slices.Concat(a, c), slices.Concat(b, e)
}

// P7.8: contents that have one root and part at blocks or nodes, at one place or at several.
func TestCollideTwins(t *testing.T) {
	r := rand.New(rand.NewSource(30))
	y := newTable(r)
	found := map[int]int{}
	for range 6000 {
		a, b := y.twins(r, r.Intn(5), byte(r.Intn(256)))
		if bytes.Equal(a, b) {
			continue
		}
		found[checkCollide(t, narrow, a, b)]++
	}
	for level := range 5 {
		if found[level] < 20 {
			t.Errorf("only %d collisions at the level %d", found[level], level)
		}
	}
	if found[-1] > 0 {
		t.Errorf("%d twins have unlike roots", found[-1])
	}
}

// P7.8: the lowest level wins, whatever its place; on one level the first place.
func TestCollideOrder(t *testing.T) {
	r := rand.New(rand.NewSource(31))
	y := newTable(r)
	// unlike are two contents of two blocks with one root and unlike leaves.
	unlike := func(d byte) ([]byte, []byte) {
		for {
			a, b := y.pair(r, d), y.pair(r, d)
			if a[0] != b[0] && a[1] != b[1] {
				return slices.Concat(y.block(r, a[0]), y.block(r, a[1])), slices.Concat(y.block(r, b[0]), y.block(r, b[1]))
			}
		}
	}
	blocks := func(d byte) ([]byte, []byte) { return y.blocks[d][0], y.blocks[d][1] }
	a0, b0 := unlike(1)
	a1, b1 := unlike(2)
	c0, d0 := blocks(3)
	c1, d1 := blocks(4)
	u, v, e := proof.Collide(narrow, slices.Concat(a0, a1, c0, c1), slices.Concat(b0, b1, d0, d1))
	if e != api.OK || !bytes.Equal(u, c0) || !bytes.Equal(v, d0) {
		t.Errorf("of two nodes and two blocks: %x, %x, %d, want the first blocks", u, v, e)
	}
	text := func(data []byte) []byte {
		row := leaves(narrow, data)
		return slices.Concat(row[0][:], row[1][:])
	}
	u, v, e = proof.Collide(narrow, slices.Concat(c0, c1, a0, a1), slices.Concat(c0, c1, b0, b1))
	if e != api.OK || !bytes.Equal(u, text(a0)) || !bytes.Equal(v, text(b0)) {
		t.Errorf("of two nodes: %x, %x, %d, want what is below the first one", u, v, e)
	}
}

// P7.8: the same two leaves the other way round are unlike texts.
func TestCollideSwapped(t *testing.T) {
	r := rand.New(rand.NewSource(32))
	y := newTable(r)
	for i := range 65536 {
		l, g := byte(i>>8), byte(i)
		if l <= g || two(narrow, api.Hash{l}, api.Hash{g}) != two(narrow, api.Hash{g}, api.Hash{l}) {
			continue
		}
		left, right := y.block(r, l), y.block(r, g)
		if checkCollide(t, narrow, slices.Concat(left, right), slices.Concat(right, left)) != 1 {
			t.Error("no collision of two leaves that have changed places")
		}
		return
	}
	t.Error("no two leaves that have one node both ways round")
}

// P7.8: any contents, with a last block that is whole or not and trees that are not full: those of one root collide, the others are apart, though some of their blocks collide.
func TestCollideAny(t *testing.T) {
	r := rand.New(rand.NewSource(33))
	found := map[int]int{}
	for _, n := range []int{1, 2, 63, 64, 65, 128, 129, 150, 192, 200, 300, 448, 600} {
		first := content(r, n)
		roots := map[api.Hash][][]byte{}
		for range 1000 {
			other := slices.Clone(first)
			for _, block := range cut(narrow, other) {
				if r.Intn(2) == 0 {
					r.Read(block)
				}
			}
			all := grown(narrow, 0, leaves(narrow, other))
			root := all[len(all)-1][0]
			for _, same := range roots[root] {
				if !bytes.Equal(same, other) {
					found[checkCollide(t, narrow, same, other)]++
				}
			}
			roots[root] = append(roots[root], other)
			if !bytes.Equal(first, other) {
				found[checkCollide(t, narrow, first, other)]++
			}
		}
	}
	for level := -1; level <= 3; level++ {
		if found[level] < 5 {
			t.Errorf("only %d answers at the level %d", found[level], level)
		}
	}
}

// P7.8: a scale with larger blocks and a wider digest.
func TestCollideScale(t *testing.T) {
	r := rand.New(rand.NewSource(34))
	sc := api.Scale{Block: 128, Width: 2}
	seen := map[api.Hash][]byte{}
	found := 0
	for range 3000 {
		data := content(r, 300)
		all := grown(sc, 0, leaves(sc, data))
		root := all[len(all)-1][0]
		if other, ok := seen[root]; ok {
			checkCollide(t, sc, other, data)
			found++
		}
		seen[root] = data
	}
	if found == 0 {
		t.Error("of 3000 contents no two have one root of two bytes")
	}
}

// noTexts fails the test unless a call has answered that error and no text.
func noTexts(t *testing.T, call string, u, v []byte, e, want api.Errno) {
	t.Helper()
	if e != want || len(u)+len(v) != 0 {
		t.Errorf("%s: %d bytes, %d bytes, %d, want none and %d", call, len(u), len(v), e, want)
	}
}

// P7.8: what is wrong first is told first.
func TestCollideErrors(t *testing.T) {
	r := rand.New(rand.NewSource(35))
	many := content(r, 64<<20+1)
	other := slices.Clone(many)
	other[0]++
	for _, c := range []struct {
		name string
		a, b []byte
		want api.Errno
	}{
		{"a and ab", []byte("a"), []byte("ab"), api.ErrApart}, {"ab and a", []byte("ab"), []byte("a"), api.ErrApart}, {"nothing and a", nil, []byte("a"), api.ErrApart}, {"nothing", nil, nil, api.ErrSame}, {"no bytes", []byte{}, nil, api.ErrSame},
		{"a and a", []byte("a"), []byte("a"), api.ErrSame}, {"a and b", []byte("a"), []byte("b"), api.ErrApart}, {"unlike last blocks", many[:65], append(slices.Clone(many[:64]), many[64]+1), api.ErrApart},
		{"too many and one less", many, many[:64<<20], api.ErrApart}, {"too many, twice", many, slices.Clone(many), api.ErrSame}, {"too many", many, other, api.ErrMany},
	} {
		u, v, e := proof.Collide(own, c.a, c.b)
		noTexts(t, c.name, u, v, e, c.want)
		for _, sc := range wrongs {
			u, v, e := proof.Collide(sc, c.a, c.b)
			noTexts(t, fmt.Sprint(c.name, " at ", sc), u, v, e, api.ErrScale)
		}
	}
	u, v, e := proof.Collide(api.Scale{Block: 128, Width: 32}, many[:1000], other[:1000])
	noTexts(t, "unlike contents", u, v, e, api.ErrApart)
}

// P7.8: as many blocks as there may be, the last two of one leaf.
func TestCollideMost(t *testing.T) {
	t.Parallel()
	r := rand.New(rand.NewSource(36))
	a := content(r, 64<<20)
	b := slices.Clone(a)
	last := b[64<<20-64:]
	for r.Read(last); sum(narrow, last) != sum(narrow, a[64<<20-64:]); {
		r.Read(last)
	}
	u, v, e := proof.Collide(narrow, a, b)
	if e != api.OK || !bytes.Equal(u, a[64<<20-64:]) || !bytes.Equal(v, last) {
		t.Errorf("Collide of 1048576 blocks: %x, %x, %d", u, v, e)
	}
}

// P7.8: the example that the chapter writes out: contents of one byte or two are their own blocks.
func TestCollideExample(t *testing.T) {
	for _, n := range []int{1, 2} {
		seen := map[api.Hash][]byte{}
		found := 0
		for i := range 257 {
			data := []byte{byte(i), byte(i >> 8)}[:n]
			root := sum(narrow, data)
			other, ok := seen[root]
			if ok && !bytes.Equal(other, data) {
				found++
				u, v, e := proof.Collide(narrow, other, data)
				if e != api.OK || !bytes.Equal(u, other) || !bytes.Equal(v, data) {
					t.Errorf("Collide(%x, %x) = %x, %x, %d", other, data, u, v, e)
				}
			}
			seen[root] = data
		}
		if found == 0 {
			t.Errorf("no two of 257 contents of %d bytes have one root", n)
		}
	}
}
