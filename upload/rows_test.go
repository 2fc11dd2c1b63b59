package upload_test

import (
	"math"
	"math/rand"
	"testing"

	"torrent/api"
)

// someFiles are a few files, twins among them, and their metainfo at a scale, with some of the layers.
func someFiles(r *rand.Rand) (api.Scale, api.Meta, [][]byte) {
	sc := api.Scale{Block: 64 << r.Intn(3), Width: []int{1, 2, 20, 32}[r.Intn(4)]}
	pieceLen := sc.Block << r.Intn(3)
	var files [][]byte
	var told []int
	for i := range 1 + r.Intn(5) {
		data := content(r, r.Intn(9*pieceLen))
		switch {
		case r.Intn(4) == 0:
			data = data[:min(len(data), r.Intn(2*pieceLen))]
		case i > 0 && r.Intn(3) == 0:
			data = files[r.Intn(i)]
		}
		files = append(files, data)
		if sc.Width > 2 && r.Intn(3) == 0 { // at a small width two files may have one root and two layers
			told = append(told, i)
		}
	}
	return sc, with(sc, bare(sc, pieceLen, files...), files, told...), files
}

// some is an upload of a few files, and a store with nothing in it.
func some(t *testing.T, r *rand.Rand) *watch {
	t.Helper()
	sc, m, files := someFiles(r)
	return begin(t, sc, m, shelved(t, sc, m.PieceLen, files...))
}

// number is one of those below n, most often.
func number(r *rand.Rand, n int) int {
	if r.Intn(30) == 0 {
		return []int{math.MinInt, -64, -1, n, n + 1, 64, 1 << 40, math.MaxInt}[r.Intn(8)]
	}
	return r.Intn(max(1, n))
}

// query is some query, most often for what a file has.
func (x *watch) query(r *rand.Rand) api.Query {
	f := x.p.m.Files[r.Intn(len(x.p.m.Files))]
	h := rise(max(1, count(f.Len, x.sc.Block)))
	q := api.Query{Root: f.Root, Base: number(r, h)}
	k := 1 + r.Intn(4)
	q.Length = 1 << k
	q.Index = number(r, 1<<max(0, h-q.Base&7-k)) << k
	q.Proofs = number(r, h-q.Base&7)
	if r.Intn(20) == 0 {
		q.Root[r.Intn(32)] ^= 1
	}
	if r.Intn(20) == 0 {
		q.Length += r.Intn(3) - 1
	}
	return q
}

// ask makes a request, or takes one back.
func (x *watch) ask(r *rand.Rand, peer int) api.Errno {
	piece := number(r, len(x.p.lens))
	n := x.sc.Block
	if piece >= 0 && piece < len(x.p.lens) {
		n = x.p.lens[piece]
	}
	begin := number(r, n)
	length := 1 + number(r, min(x.sc.Block, max(1, n-begin)))
	if g := x.p.peers[peer]; g != nil && len(g.waits) > 0 && r.Intn(4) == 0 {
		w := g.waits[r.Intn(len(g.waits))]
		piece, begin, length = w[0], w[1], w[2]
	}
	if r.Intn(5) == 0 {
		return x.cancel(peer, piece, begin, length)
	}
	return x.request(peer, piece, begin, length)
}

// step makes one call or another, that may be taken or refused; what it answers, and how many messages.
func (x *watch) step(r *rand.Rand, now int) (api.Errno, int) {
	x.t.Helper()
	peer := number(r, 6)
	switch r.Intn(24) {
	case 0, 1:
		return x.join(peer), 0
	case 2:
		return x.leave(peer), 0
	case 3, 4:
		return x.interest(peer, r.Intn(4) > 0), 0
	case 5:
		return x.credit(peer, number(r, 9)), 0
	case 6, 7:
		h := api.Hash{byte(r.Intn(256))}
		return x.learn(number(r, len(x.p.lens)), h), 0
	case 8, 9:
		m, e := x.hashes(peer, x.query(r))
		return e, len(m.Hashes)
	case 10, 11:
		if i := r.Intn(len(x.b) + 1); i < len(x.b) && !x.has(i) {
			x.fill(i)
		}
	case 12, 13, 14:
		return api.OK, len(x.tick(now - r.Intn(2)))
	default:
		return x.ask(r, peer), 0
	}
	return api.OK, 0
}

// P18.1 to P18.10: rows of calls of all kinds, at several scales, against the upload of the chapter's words.
func TestRows(t *testing.T) {
	r := rand.New(rand.NewSource(14))
	seen, said := map[api.Errno]int{}, 0
	for range 250 {
		x := some(t, r)
		for i := range 400 {
			e, n := x.step(r, i/3)
			seen[e]++
			said += n
		}
	}
	for _, e := range []api.Errno{api.OK, api.ErrArg, api.ErrPiece, api.ErrByte, api.ErrStoreLack, api.ErrUnasked, api.ErrPeer, api.ErrChoked} {
		if seen[e] < 20 {
			t.Errorf("the rows are too tame: the error %d came %d times", e, seen[e])
		}
	}
	if said < 1000 {
		t.Errorf("the rows are too tame: %d things were said", said)
	}
}

// P18.12: what is given was asked for by an open peer, was neither cancelled nor forgotten, is what the store reads, and is given once; P18.11: at most Slots peers are open.
func TestGiven(t *testing.T) {
	r := rand.New(rand.NewSource(15))
	type asked struct{ peer, piece, begin, length int }
	given := 0
	for range 100 {
		x := some(t, r)
		x.fillAll()
		open := map[asked]int{}
		drop := func(peer int) {
			for a := range open {
				if a.peer == peer {
					delete(open, a)
				}
			}
		}
		for now := range 200 {
			for range 6 {
				a := asked{r.Intn(4), r.Intn(len(x.p.lens) + 1), r.Intn(200), 1 + r.Intn(64)}
				if r.Intn(8) == 0 && x.u.Cancel(a.peer, a.piece, a.begin, a.length) == api.OK {
					delete(open, a)
				}
				if on, _ := x.u.Open(a.peer); x.u.Request(a.peer, a.piece, a.begin, a.length) == api.OK {
					if open[a] = 1; !on {
						t.Fatal("a choked peer may ask")
					}
				}
			}
			switch peer := r.Intn(4); r.Intn(6) {
			case 0:
				x.u.Leave(peer)
				drop(peer)
			default:
				x.u.Join(peer)
				x.u.Interest(peer, r.Intn(3) > 0)
			}
			for _, o := range x.u.Tick(now) {
				switch o.Msg.Kind {
				case api.MsgChoke:
					drop(o.Peer)
				case api.MsgPiece:
					a := asked{o.Peer, o.Msg.Index, o.Msg.Begin, len(o.Msg.Data)}
					if given++; open[a] == 0 {
						t.Fatalf("%v is given, and was not asked for", a)
					}
					delete(open, a)
					if b, e := x.s.Read(a.piece, a.begin, a.length); e != api.OK || string(b) != string(o.Msg.Data) {
						t.Fatalf("%v is given as %v", a, o.Msg.Data)
					}
				}
			}
			if l := x.open(4); len(l) > 2 {
				t.Fatalf("%v are open", l)
			}
		}
	}
	if given < 1000 {
		t.Errorf("only %d were given", given)
	}
}
