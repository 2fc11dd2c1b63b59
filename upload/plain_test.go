package upload_test

import (
	"maps"
	"slices"
	"testing"

	"torrent/api"
	"torrent/upload"
)

// guest is a peer of the plain upload.
type guest struct {
	open, interested bool
	credit           int
	waits            [][3]int // piece, begin, length
}

// plain is the upload of the chapter's words.
type plain struct {
	sc    api.Scale
	m     api.Meta
	x     *shelf
	lens  []int
	known map[int]api.Hash
	peers map[int]*guest
	mark  int
}

// newPlain is the plain upload of a metainfo that may be.
func newPlain(sc api.Scale, m api.Meta, x *shelf) *plain {
	p := &plain{sc: sc, m: m, x: x, known: map[int]api.Hash{}, peers: map[int]*guest{}, mark: -1}
	for _, f := range m.Files {
		if f.Len > 0 && f.Len <= m.PieceLen {
			p.known[len(p.lens)] = f.Root
		}
		for _, l := range m.Layers {
			for i, h := range l.Hashes {
				if f.Len > m.PieceLen && l.Root == f.Root {
					p.known[len(p.lens)+i] = h
				}
			}
		}
		for at := 0; at < f.Len; at += m.PieceLen {
			p.lens = append(p.lens, min(m.PieceLen, f.Len-at))
		}
	}
	return p
}

// sorted are the peers, rising.
func (p *plain) sorted() []int { return slices.Sorted(maps.Keys(p.peers)) }

func (p *plain) join(peer int) api.Errno {
	if peer < 0 {
		return api.ErrArg
	}
	if p.peers[peer] != nil {
		return api.ErrPeer
	}
	p.peers[peer] = &guest{}
	return api.OK
}

func (p *plain) leave(peer int) api.Errno {
	if p.peers[peer] == nil {
		return api.ErrPeer
	}
	delete(p.peers, peer)
	return api.OK
}

func (p *plain) interest(peer int, on bool) api.Errno {
	if p.peers[peer] == nil {
		return api.ErrPeer
	}
	p.peers[peer].interested = on
	return api.OK
}

func (p *plain) credit(peer, bytes int) api.Errno {
	if p.peers[peer] == nil {
		return api.ErrPeer
	}
	if bytes < 0 {
		return api.ErrArg
	}
	const most = 1099511627776
	p.peers[peer].credit = min(most, p.peers[peer].credit+min(most, bytes))
	return api.OK
}

func (p *plain) request(peer, piece, begin, length int) api.Errno {
	g := p.peers[peer]
	if g == nil {
		return api.ErrPeer
	}
	if piece < 0 || piece >= len(p.lens) {
		return api.ErrPiece
	}
	if length < 1 || length > p.sc.Block || begin < 0 || begin > p.lens[piece] || begin+length > p.lens[piece] {
		return api.ErrByte
	}
	if !g.open {
		return api.ErrChoked
	}
	if !p.x.has(piece) {
		return api.ErrStoreLack
	}
	for _, w := range g.waits {
		if w == [3]int{piece, begin, length} {
			return api.OK
		}
	}
	if len(g.waits) == 16 {
		return api.ErrQueue
	}
	g.waits = append(g.waits, [3]int{piece, begin, length})
	return api.OK
}

func (p *plain) cancel(peer, piece, begin, length int) api.Errno {
	g := p.peers[peer]
	if g == nil {
		return api.ErrPeer
	}
	for i, w := range g.waits {
		if w == [3]int{piece, begin, length} {
			g.waits = slices.Concat(g.waits[:i], g.waits[i+1:])
			return api.OK
		}
	}
	return api.ErrUnasked
}

func (p *plain) learn(piece int, h api.Hash) api.Errno {
	if piece < 0 || piece >= len(p.lens) {
		return api.ErrPiece
	}
	if _, ok := p.known[piece]; !ok {
		p.known[piece] = h
	}
	return api.OK
}

// asked is the answer to a query of the tree with these nodes at the level low; nothing, if it may not be asked of it.
func (p *plain) asked(low int, nodes []api.Hash, q api.Query) []api.Hash {
	height := low + rise(len(nodes))
	if q.Base < low || q.Base >= height || !slices.Contains([]int{2, 4, 8, 16, 32, 64, 128, 256, 512}, q.Length) {
		return nil
	}
	if q.Index < 0 || q.Index%q.Length != 0 || q.Index > 1<<(height-q.Base)-q.Length || q.Proofs < 0 || q.Proofs >= height-q.Base {
		return nil
	}
	all := grown(p.sc, low, nodes)
	l := slices.Clone(all[q.Base-low][q.Index : q.Index+q.Length])
	for up := rise(q.Length); up <= q.Proofs; up++ {
		at := q.Index >> up
		if at%2 == 0 {
			at++
		} else {
			at--
		}
		l = append(l, all[q.Base-low+up][at])
	}
	return l
}

// row is the hashes of so many pieces; nothing, if one is not known.
func (p *plain) row(first, n int) []api.Hash {
	var l []api.Hash
	for i := range n {
		h, ok := p.known[first+i]
		if !ok {
			return nil
		}
		l = append(l, h)
	}
	return l
}

// bytes are the bytes of so many pieces; nothing, if one is not there or is shorter in the store.
func (p *plain) bytes(first, n int) []byte {
	var b []byte
	for i := first; i < first+n; i++ {
		if !p.x.has(i) || len(p.x.b[i]) < p.lens[i] {
			return nil
		}
		b = append(b, p.x.b[i][:p.lens[i]]...)
	}
	return b
}

func (p *plain) hashes(peer int, q api.Query) (api.Msg, api.Errno) {
	if p.peers[peer] == nil {
		return api.Msg{}, api.ErrPeer
	}
	m := api.Msg{Kind: 23, Root: q.Root, Base: q.Base, Index: q.Index, Length: q.Length, Proofs: q.Proofs}
	first := 0
	for _, f := range p.m.Files {
		n := count(f.Len, p.m.PieceLen)
		from := first
		first += n
		if f.Len == 0 || f.Root != q.Root {
			continue
		}
		if row := p.row(from, n); f.Len > p.m.PieceLen && row != nil {
			m.Hashes = p.asked(rise(p.m.PieceLen/p.sc.Block), row, q)
		}
		if b := p.bytes(from, n); m.Hashes == nil && b != nil {
			m.Hashes = p.asked(0, leaves(p.sc, b), q)
		}
		if m.Hashes != nil {
			m.Kind = 22
			break
		}
	}
	return m, api.OK
}

// choose is a choosing; what is said to whom.
func (p *plain) choose() []api.Out {
	chosen := map[int]bool{}
	best := -1
	for _, i := range p.sorted() {
		if g := p.peers[i]; g.interested && g.credit > 0 && (best < 0 || g.credit > p.peers[best].credit) {
			best = i
		}
	}
	if best >= 0 { // Slots - 1 is one
		chosen[best] = true
	}
	var row []int
	for _, above := range []bool{true, false} {
		for _, i := range p.sorted() {
			if p.peers[i].interested && !chosen[i] && (i > p.mark) == above {
				row = append(row, i)
			}
		}
	}
	for len(row) > 0 && len(chosen) < 2 {
		chosen[row[0]] = true
		p.mark = row[0]
		row = row[1:]
	}
	var said []api.Out
	for _, i := range p.sorted() {
		g := p.peers[i]
		g.credit = 0
		if g.open && !chosen[i] {
			g.waits = nil
			said = append(said, chokes(i))
		}
		if !g.open && chosen[i] {
			said = append(said, opens(i))
		}
		g.open = chosen[i]
	}
	return said
}

func (p *plain) tick(now int) []api.Out {
	if now < 0 {
		return nil
	}
	var said []api.Out
	if now%4 == 0 {
		said = p.choose()
	}
	for _, i := range p.sorted() {
		g := p.peers[i]
		for k := 0; k < 4 && g.open && len(g.waits) > 0; k++ {
			w := g.waits[0]
			g.waits = g.waits[1:]
			if b := p.x.b[w[0]]; p.x.has(w[0]) && w[1]+w[2] <= len(b) {
				said = append(said, gives(i, w[0], w[1], b[w[1]:w[1]+w[2]]))
			}
		}
	}
	return said
}

// watch holds an upload against the plain one, call by call.
type watch struct {
	*shelf
	u *upload.Upload
	p *plain
}

// begin is a new upload of a metainfo that may be, watched.
func begin(t *testing.T, sc api.Scale, m api.Meta, x *shelf) *watch {
	t.Helper()
	return &watch{x, made(t, sc, m, x.s), newPlain(sc, m, x)}
}

// look holds what can be seen of the upload without a change against the plain one.
func (x *watch) look() {
	x.t.Helper()
	open := 0
	for i := -1; i < 24; i++ {
		on, e := x.u.Open(i)
		want, g := api.ErrPeer, x.p.peers[i]
		if g != nil {
			want = api.OK
		}
		if e != want || on != (g != nil && g.open) {
			x.t.Fatalf("Open(%d) = %v, %d; want %d", i, on, e, want)
		}
		if on {
			open++
		}
	}
	if open > 2 {
		x.t.Fatalf("%d peers are open", open)
	}
}

// errs holds an answer that is an error alone against the plain one.
func (x *watch) errs(what string, e, want api.Errno) api.Errno {
	x.t.Helper()
	if e != want {
		x.t.Fatalf("%s = %d; want %d", what, e, want)
	}
	x.look()
	return e
}

func (x *watch) join(peer int) api.Errno {
	x.t.Helper()
	return x.errs("Join", x.u.Join(peer), x.p.join(peer))
}

func (x *watch) leave(peer int) api.Errno {
	x.t.Helper()
	return x.errs("Leave", x.u.Leave(peer), x.p.leave(peer))
}

func (x *watch) interest(peer int, on bool) api.Errno {
	x.t.Helper()
	return x.errs("Interest", x.u.Interest(peer, on), x.p.interest(peer, on))
}

func (x *watch) credit(peer, bytes int) api.Errno {
	x.t.Helper()
	return x.errs("Credit", x.u.Credit(peer, bytes), x.p.credit(peer, bytes))
}

func (x *watch) request(peer, piece, begin, length int) api.Errno {
	x.t.Helper()
	return x.errs("Request", x.u.Request(peer, piece, begin, length), x.p.request(peer, piece, begin, length))
}

func (x *watch) cancel(peer, piece, begin, length int) api.Errno {
	x.t.Helper()
	return x.errs("Cancel", x.u.Cancel(peer, piece, begin, length), x.p.cancel(peer, piece, begin, length))
}

func (x *watch) learn(piece int, h api.Hash) api.Errno {
	x.t.Helper()
	return x.errs("Learn", x.u.Learn(piece, h), x.p.learn(piece, h))
}

func (x *watch) hashes(peer int, q api.Query) (api.Msg, api.Errno) {
	x.t.Helper()
	m, e := x.u.Hashes(peer, q)
	if w, f := x.p.hashes(peer, q); !sameMsg(m, w) || e != f {
		x.t.Fatalf("Hashes(%d, %v) = %v, %d; want %v, %d", peer, q, m, e, w, f)
	}
	x.look()
	return m, e
}

func (x *watch) tick(now int) []api.Out {
	x.t.Helper()
	l := x.u.Tick(now)
	if w := x.p.tick(now); !sameOuts(l, w) {
		x.t.Fatalf("Tick(%d) = %v; want %v", now, l, w)
	}
	x.look()
	return l
}

// says fails the test unless a tick says just this.
func (x *watch) says(now int, want ...api.Out) {
	x.t.Helper()
	if l := x.tick(now); !sameOuts(l, want) {
		x.t.Fatalf("Tick(%d) = %v; want %v", now, l, want)
	}
}

// invite lets peers join that are interested.
func (x *watch) invite(peers ...int) {
	x.t.Helper()
	for _, i := range peers {
		wants(x.t, "Join", x.join(i), api.OK)
		wants(x.t, "Interest", x.interest(i, true), api.OK)
	}
}
