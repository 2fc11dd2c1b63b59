package book_test

import (
	"math"
	"math/rand"
	"testing"

	"torrent/api"
	"torrent/proof"
)

// P15.3, P15.4: the queries of a file are its plan's, in its order; each may be asked of the file's tree, and its answer leads to the root.
func TestPlans(t *testing.T) {
	r := rand.New(rand.NewSource(5))
	for _, blocks := range []int{1, 2, 8} {
		for n := 2; n < 70; n += 1 + n/20 {
			data := content(r, n*blocks*64-r.Intn(64))
			x := begin(t, own, bare(own, blocks*64, data))
			level, root := rise(blocks), x.m.Files[0].Root
			plan, e := proof.Plan(n, level, root)
			wants(t, "proof.Plan", e, api.OK)
			for i, want := range plan {
				q, ok := x.next(i, 0)
				if !ok || q != want {
					t.Fatalf("of %d pieces: Next(%d) = %v, %v; want %v", n, i, q, ok, want)
				}
				wants(t, "proof.Check", proof.Check(n, level, q), api.OK)
				top, place, e := proof.Top(n, level, q)
				if top != level+rise(n) || place != 0 || e != api.OK {
					t.Fatalf("the answer to %v leads to the level %d and the place %d", q, top, place)
				}
				hashes, e := proof.Prove(own, level, layer(own, blocks*64, data), q)
				wants(t, "proof.Prove", e, api.OK)
				_, e = x.accept(i, q, hashes)
				wants(t, "Accept", e, api.OK)
			}
			if m := x.b.Missing(); m != 0 {
				t.Fatalf("of %d pieces %d are missing behind the plan", n, m)
			}
		}
	}
}

// P15.3: the chunks come in the order of the files, those of files whose layer is there and of small files not at all.
func TestFiles(t *testing.T) {
	r := rand.New(rand.NewSource(6))
	files := [][]byte{content(r, 64), content(r, 64*9), nil, content(r, 64*17), content(r, 65), content(r, 64*3)}
	x := begin(t, own, with(own, bare(own, 64, files...), files, 3))
	for i, c := range [][2]int{{1, 0}, {1, 8}, {4, 0}, {5, 0}} {
		if q := x.asks(i, 0, c[1]); q.Root != x.m.Files[c[0]].Root {
			t.Fatalf("Next(%d) asks for another file", i)
		}
	}
	if q := x.asks(4, 0, 0); q.Root != x.m.Files[1].Root {
		t.Fatal("where all are out, the first one is asked for again")
	}
}

// P15.3: a number below 0 is refused, and nothing is out; numbers may be as great as ints are.
func TestNextArguments(t *testing.T) {
	x, _ := ten(t)
	for _, c := range [][2]int{{-1, 0}, {0, -1}, {-1, -1}, {math.MinInt, 0}, {0, math.MinInt}, {math.MaxInt, -1}} {
		if q, ok, e := x.b.Next(c[0], c[1]); q != (api.Query{}) || ok || e != api.ErrArg {
			t.Errorf("Next(%d, %d) = %v, %v, %d", c[0], c[1], q, ok, e)
		}
	}
	x.asks(math.MaxInt, math.MaxInt, 0)
	x.asks(math.MaxInt, 0, -1)
	x.asks(0, 0, 8)
	if late := x.expire(math.MaxInt); len(late) != 1 || late[0].Peer != 0 {
		t.Errorf("Expire = %v", late)
	}
}

// P15.3: a chunk that is out at nobody goes ahead of one that is; a chunk that is known goes out to nobody any more.
func TestWhichChunk(t *testing.T) {
	r := rand.New(rand.NewSource(7))
	data := content(r, 64*24)
	x := begin(t, own, bare(own, 64, data))
	q := x.asks(3, 0, 0)
	x.asks(1, 0, 8)
	x.asks(2, 0, 16)
	x.asks(4, 0, 0) // a second one is asked for it
	x.asks(5, 0, 0) // and a third
	wants(t, "Drop", x.drop(1), api.OK)
	x.asks(6, 0, 8) // out at nobody, though behind another
	wants(t, "Drop", x.drop(3), api.OK)
	x.asks(3, 0, 0) // it is out at others yet
	wants(t, "Reject", x.reject(3, q), api.OK)
	x.asks(3, 0, 8) // barred from the first
	wants(t, "Drop", x.drop(6), api.OK)
	x.asks(6, 0, 0) // all are out, and it is barred from none
	_, e := x.accept(4, q, truth(own, 64, data, q))
	wants(t, "Accept", e, api.OK)
	x.asks(4, 0, 8)
	x.asks(5, 0, -1) // the known chunk is out at it yet
	wants(t, "Reject", x.reject(5, q), api.OK)
	x.asks(5, 0, 8)
}
