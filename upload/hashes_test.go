package upload_test

import (
	"math"
	"math/rand"
	"slices"
	"testing"

	"torrent/api"
	"torrent/proof"
)

// tries asks for all rows of a tree of that root, and for some that no tree has; how many were answered.
func (x *watch) tries(peer int, root api.Hash) int {
	x.t.Helper()
	answered := 0
	for base := -1; base < 7; base++ {
		for length := 1; length <= 64; length *= 2 {
			for index := 0; index <= 40; index += max(1, length/2) {
				for proofs := -1; proofs < 7; proofs++ {
					m, e := x.hashes(peer, api.Query{Root: root, Base: base, Index: index, Length: length, Proofs: proofs})
					wants(x.t, "Hashes", e, api.OK)
					if m.Kind == api.MsgHashes {
						answered++
					}
				}
			}
		}
	}
	return answered
}

// P18.7: every query, of files of several lengths, with their layers and without, with all pieces there and not.
func TestAllQueries(t *testing.T) {
	r := rand.New(rand.NewSource(8))
	for _, n := range []int{1, 64, 65, 128, 129, 256, 257, 300, 640, 1000} {
		data := content(r, n)
		for _, told := range []bool{false, true} {
			m := bare(own, 128, data)
			if told {
				m = with(own, m, [][]byte{data}, 0)
			}
			x := begin(t, own, m, shelved(t, own, 128, data))
			x.join(4)
			ahead := 0
			for i := range x.b {
				ahead = x.tries(4, m.Files[0].Root)
				x.fill(i)
			}
			all := x.tries(4, m.Files[0].Root)
			if ahead > 0 != (told && n > 128) || all > 0 != (n > 64) || ahead >= all && all > 0 {
				t.Errorf("%d bytes: %d queries are answered by the row alone, %d by the leaves", n, ahead, all)
			}
		}
	}
}

// P18.7: the numbers of a query may be any.
func TestWildQueries(t *testing.T) {
	x := three(t)
	x.fill(1)
	x.join(4)
	wild := []int{math.MinInt, math.MinInt + 1, -2, -1, 0, 1, 2, 3, 48, 49, 512, 1024, 1 << 62, math.MaxInt}
	for _, base := range wild {
		for _, index := range wild {
			for _, length := range wild {
				for _, proofs := range wild {
					x.hashes(4, api.Query{Root: x.p.m.Files[0].Root, Base: base, Index: index, Length: length, Proofs: proofs})
				}
			}
		}
	}
}

// P18.7: choked peers are answered too, and open ones, interested or not; each peer the same.
func TestChokedAreAnswered(t *testing.T) {
	x := three(t)
	q := api.Query{Root: x.p.m.Files[0].Root, Base: 1, Length: 4}
	x.invite(1, 2, 3)
	x.join(4)
	for now := range 12 {
		for i := 1; i < 5; i++ {
			if m, e := x.hashes(i, q); m.Kind != api.MsgHashes || e != api.OK {
				t.Fatalf("Hashes(%d) = %v, %d", i, m, e)
			}
		}
		x.tick(now)
	}
}

// P18.6, P18.7: a row is known when the last of its pieces' hashes is; what is known stays, be it told by the metainfo or learned.
func TestLearn(t *testing.T) {
	r := rand.New(rand.NewSource(9))
	a, b, c := content(r, 600), content(r, 500), content(r, 100)
	m := with(own, bare(own, 128, a, b, c), [][]byte{a, b, c}, 1)
	x := begin(t, own, m, shelved(t, own, 128, a, b, c))
	x.join(4)
	q := api.Query{Root: m.Files[0].Root, Base: 1, Length: 8}
	l := layer(own, 128, a)
	for _, i := range []int{math.MinInt, -1, 10, math.MaxInt} {
		wants(t, "Learn", x.learn(i, l[0]), api.ErrPiece)
	}
	for _, i := range []int{3, 0, 4, 1} {
		wants(t, "Learn", x.learn(i, l[i]), api.OK)
		wants(t, "Learn again", x.learn(i, api.Hash{8}), api.OK)
		if m, _ := x.hashes(4, q); m.Kind != api.MsgHashReject {
			t.Fatalf("the row is not known: Hashes = %v", m)
		}
	}
	wants(t, "Learn", x.learn(2, api.Hash{}), api.OK) // hashes are taken as they are told, the zero one too
	wants(t, "Learn again", x.learn(2, l[2]), api.OK)
	ans, e := x.hashes(4, q)
	if wants(t, "Hashes", e, api.OK); !slices.Equal(ans.Hashes[:5], []api.Hash{l[0], l[1], {}, l[3], l[4]}) {
		t.Fatalf("Hashes = %v", ans)
	}
	for i := 5; i < 10; i++ { // told by the metainfo, c's by its root
		wants(t, "Learn", x.learn(i, api.Hash{9}), api.OK)
	}
	q.Root, q.Length = m.Files[1].Root, 4
	if ans, _ = x.hashes(4, q); !slices.Equal(ans.Hashes, layer(own, 128, b)) {
		t.Fatalf("Hashes = %v", ans)
	}
}

// P18.6: what is learned of a file's pieces is not known of another's, though they have one root.
func TestLearnOfTwins(t *testing.T) {
	data := content(rand.New(rand.NewSource(10)), 300)
	m := bare(own, 128, data, data)
	x := begin(t, own, m, shelved(t, own, 128, data, data))
	x.join(4)
	l := layer(own, 128, data)
	q := api.Query{Root: m.Files[0].Root, Base: 1, Length: 2, Proofs: 1}
	x.learn(0, l[0])
	x.learn(4, l[1])
	x.learn(5, l[2])
	if ans, _ := x.hashes(4, q); ans.Kind != api.MsgHashReject {
		t.Fatalf("of no file all are known: Hashes = %v", ans)
	}
	x.learn(3, l[0])
	if ans, _ := x.hashes(4, q); ans.Kind != api.MsgHashes || proof.Verify(own, 3, 1, q, ans.Hashes) != api.OK {
		t.Fatalf("of the second file: Hashes = %v", ans)
	}
	x.learn(1, api.Hash{1})
	x.learn(2, api.Hash{2})
	if ans, _ := x.hashes(4, q); ans.Kind != api.MsgHashes || ans.Hashes[1] != (api.Hash{1}) {
		t.Fatalf("the first file goes ahead: Hashes = %v", ans)
	}
}

// P18.7: files of one root and other lengths are looked at one after the other, the small ones by their leaves alone. (The 64 bytes of two leaves have the root of the file with these leaves.)
func TestOneRoot(t *testing.T) {
	r := rand.New(rand.NewSource(11))
	two := content(r, 64+1+r.Intn(64))
	l := leaves(own, two)
	one := slices.Concat(l[0][:], l[1][:])
	for _, pieceLen := range []int{64, 128} {
		for _, files := range [][][]byte{{one, two}, {two, one}, {nil, one, nil, one, two, two}} {
			for _, m := range []api.Meta{bare(own, pieceLen, files...), with(own, bare(own, pieceLen, files...), files, slices.IndexFunc(files, func(b []byte) bool { return len(b) > 64 }))} {
				x := begin(t, own, m, shelved(t, own, pieceLen, files...))
				x.join(4)
				x.tries(4, top(own, 0, l))
				for _, i := range r.Perm(len(x.b)) {
					x.fill(i)
					x.tries(4, top(own, 0, l))
				}
				q := api.Query{Root: top(own, 0, l), Length: 2}
				if ans, _ := x.hashes(4, q); !slices.Equal(ans.Hashes, l) {
					t.Errorf("Hashes = %v", ans)
				}
			}
		}
	}
}

// P18.7: the second of two twins is looked at if the first one has not what is asked for.
func TestTwins(t *testing.T) {
	data := content(rand.New(rand.NewSource(12)), 400)
	m := with(own, bare(own, 128, data, data), [][]byte{data, data}, 0)
	x := begin(t, own, m, shelved(t, own, 128, data, data))
	x.join(4)
	q := api.Query{Root: m.Files[0].Root, Base: 0, Length: 8}
	x.fill(0, 1, 2, 4, 5, 6)
	if ans, _ := x.hashes(4, q); ans.Kind != api.MsgHashReject {
		t.Fatalf("each lacks a piece: Hashes = %v", ans)
	}
	x.fill(7)
	if ans, _ := x.hashes(4, q); ans.Kind != api.MsgHashes {
		t.Fatalf("the second is there: Hashes = %v", ans)
	}
}

// P18.7: files without a byte are not looked at, though the root that is asked for is theirs.
func TestZeroRoot(t *testing.T) {
	x := begin(t, own, bare(own, 64, nil, []byte("abc"), nil), shelved(t, own, 64, []byte("abc")))
	x.fillAll()
	x.join(4)
	if n := x.tries(4, api.Hash{}); n > 0 {
		t.Errorf("%d queries for the zero root are answered", n)
	}
	m := bare(own, 64, nil, make([]byte, 200), nil) // but one with bytes is, whatever its root
	m.Files[1].Root = api.Hash{}
	x = begin(t, own, m, shelved(t, own, 64, make([]byte, 200)))
	x.join(4)
	for i := range 4 {
		x.learn(i, api.Hash{byte(i)})
	}
	if n := x.tries(4, api.Hash{}); n == 0 {
		t.Error("a file whose root is zero is not looked at")
	}
}

// P18.7: a file of more than MaxNodes blocks answers by its row, and never by its leaves.
func TestManyBlocks(t *testing.T) {
	const pieceLen = 64 * 1024
	m := api.Meta{Name: "t", PieceLen: pieceLen, Files: []api.File{{Path: []string{"a"}, Len: 64*api.MaxNodes + 1, Root: api.Hash{1}}}}
	x := begin(t, own, m, shelved(t, own, 64, []byte("abc")))
	x.join(4)
	q := api.Query{Root: api.Hash{1}, Base: 10, Length: 512, Index: 1024}
	for i := range 1025 {
		if ans, _ := x.u.Hashes(4, q); ans.Kind != api.MsgHashReject {
			t.Fatalf("%d hashes are known: Hashes = %v", i, ans)
		}
		wants(t, "Learn", x.learn(i, api.Hash{2, byte(i), byte(i >> 8)}), api.OK)
	}
	ans, _ := x.hashes(4, q)
	if ans.Kind != api.MsgHashes || len(ans.Hashes) != 512 || ans.Hashes[0] != (api.Hash{2, 0, 4}) {
		t.Errorf("Hashes = %v", ans)
	}
	for base := range 10 {
		q.Base = base
		if ans, _ := x.u.Hashes(4, q); ans.Kind != api.MsgHashReject {
			t.Errorf("at the level %d: Hashes = %v", base, ans)
		}
	}
}

// P18.12: what is answered to a query for the full proof leads to the root, out of the row and out of the leaves.
func TestAnswersLead(t *testing.T) {
	r := rand.New(rand.NewSource(13))
	for _, sc := range []api.Scale{own, {Block: 64, Width: 1}, {Block: 128, Width: 31}, {Block: 256, Width: 7}} {
		for range 20 {
			pieceLen := sc.Block << r.Intn(4)
			data := content(r, 1+r.Intn(20*sc.Block))
			m := bare(sc, pieceLen, data)
			x := begin(t, sc, m, shelved(t, sc, pieceLen, data))
			x.join(4)
			if r.Intn(2) == 0 {
				x.fillAll()
			} else {
				for i, h := range layer(sc, pieceLen, data) {
					x.learn(i, h)
				}
			}
			blocks := count(len(data), sc.Block)
			for base := range rise(blocks) {
				for k := 1; k <= rise(blocks)-base; k++ {
					for at := 0; at < 1<<(rise(blocks)-base-k); at++ {
						q := api.Query{Root: m.Files[0].Root, Base: base, Index: at << k, Length: 1 << k, Proofs: rise(blocks) - base - 1}
						ans, _ := x.hashes(4, q)
						if ans.Kind == api.MsgHashes && proof.Verify(sc, blocks, 0, q, ans.Hashes) != api.OK {
							t.Fatalf("Hashes(%v) does not lead to the root", q)
						}
					}
				}
			}
		}
	}
}
