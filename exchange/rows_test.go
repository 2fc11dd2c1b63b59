package exchange_test

import (
	"math"
	"math/rand"
	"testing"

	"torrent/api"
	"torrent/exchange"
)

// held plays calls for a fetch and for the plain one; false, if they answered apart.
func held(t *testing.T, sc api.Scale, h api.Hash, calls []call) bool {
	f, e := exchange.New(sc, h)
	if e != api.OK {
		t.Fatalf("P23.3: New: %d", e)
	}
	p := newPlain(sc, h)
	for i, c := range calls {
		if got, want := do(f, c), do(p, c); got != want {
			t.Errorf("P23.4 to P23.10: %v answers %v, want %v, behind %v", c, got, want, calls[:i])
			return false
		}
	}
	return true
}

// all goes through all rows of n of the letters.
func all(letters []call, n int, visit func([]call) bool) bool {
	row := make([]call, n)
	var lay func(int) bool
	lay = func(at int) bool {
		if at == n {
			return visit(row)
		}
		for _, c := range letters {
			row[at] = c
			if !lay(at + 1) {
				return false
			}
		}
		return true
	}
	return lay(0)
}

// P23.4 to P23.10: all short rows of calls, behind several beginnings, answer as the plain ones do.
func TestAllShortRows(t *testing.T) {
	text := some(65)
	wrong := changed(text, 64)
	letters := []call{
		size(0, 65), size(0, 64), size(1, 65), next(0, 0), next(0, 4), next(1, 2),
		give(0, 64, text, 0), give(0, 64, text, 1), give(0, 64, wrong, 1), take(0, 1, 64, text[64:]), take(0, 0, 65, text[:63]),
		give(1, 64, text, 0), give(1, 64, text, 1), refuse(0, 0), refuse(0, 1), expire(8), expire(11), drop(0), info(),
	}
	half := []call{size(0, 65), next(0, 0), give(0, 64, text, 0)}
	second := append(half[:3:3], next(0, 1))
	starts := [][]call{
		nil,
		{size(0, 65)},
		half,
		second,
		append(second[:4:4], size(1, 65), next(1, 5)),
		append(second[:4:4], give(0, 64, wrong, 1)),
		append(second[:4:4], give(0, 64, text, 1)),
		{size(0, 65), next(0, 0), refuse(0, 0)},
	}
	for _, start := range starts {
		all(letters, 4, func(row []call) bool {
			return held(t, own, sum(own, text), append(start[:len(start):len(start)], row...))
		})
	}
}

// player makes random calls that are near to what is out.
type player struct {
	*rand.Rand
	sc    api.Scale
	texts [][]byte
	plain *plain
}

func (r player) peer() int {
	if r.Intn(40) == 0 {
		return []int{-1, math.MinInt, math.MaxInt, 4}[r.Intn(4)]
	}
	return r.Intn(4)
}

func (r player) time() int {
	if r.Intn(30) == 0 {
		return []int{-1, math.MinInt, math.MaxInt, math.MaxInt - 7, math.MaxInt - 8}[r.Intn(5)]
	}
	return r.Intn(20)
}

// part is mostly the one that is out.
func (r player) part(peer int) int {
	if r.Intn(12) == 0 {
		return []int{-1, 0, 1, 2, 3, math.MaxInt, math.MinInt}[r.Intn(7)]
	}
	if s := r.plain.of[peer]; s != nil {
		return s.part
	}
	return r.Intn(3)
}

func (r player) size(peer int) int {
	if s := r.plain.of[peer]; s != nil && s.size != 0 && r.Intn(12) > 0 {
		return s.size
	}
	if r.Intn(12) == 0 {
		return []int{0, -1, 1048576, 1048577, 64, 128, math.MaxInt}[r.Intn(7)]
	}
	return len(r.texts[r.Intn(len(r.texts))])
}

// bytes are mostly a part of one of the texts that has the size, sometimes wrong ones.
func (r player) bytes(peer, part, total int) []byte {
	text := r.texts[peer&1]
	if len(text) != total || r.Intn(20) == 0 {
		text = r.texts[r.Intn(len(r.texts))]
	}
	if part < 0 || part > (len(text)-1)/r.sc.Block {
		return nil
	}
	b := cut(r.sc.Block, text, part)
	switch r.Intn(20) {
	case 0:
		return changed(b, r.Intn(len(b)))
	case 1:
		return b[:r.Intn(len(b))]
	case 2:
		return append(b[:len(b):len(b)], 0)
	}
	return b
}

func (r player) call() call {
	c := call{peer: r.peer(), now: r.time()}
	c.name = []string{"Size", "Next", "Next", "Next", "Next", "Take", "Take", "Take", "Take", "Refuse", "Expire", "Drop", "Info"}[r.Intn(13)]
	if (c.name == "Refuse" || c.name == "Drop" || c.name == "Expire") && r.Intn(4) > 0 {
		c.name = "Take"
	}
	c.part, c.total = r.part(c.peer), r.size(c.peer)
	c.data = r.bytes(c.peer, c.part, c.total)
	return c
}

// P23.4 to P23.10: random rows of calls, at scales with and without two texts of one digest.
func TestRandomRows(t *testing.T) {
	ends, lies := 0, 0
	for seed := range int64(3000) {
		rnd := rand.New(rand.NewSource(seed))
		sc := []api.Scale{own, tiny, {Block: 128, Width: 2}}[seed%3]
		text := some([]int{1, 64, 65, 128, 150, 300}[rnd.Intn(6)])
		texts := [][]byte{text, changed(text, rnd.Intn(len(text))), some(rnd.Intn(200) + 1)}
		if sc == tiny {
			texts[1] = twin(sc, text, 2+rnd.Intn(200))
		}
		rnd.Shuffle(3, func(i, j int) { texts[i], texts[j] = texts[j], texts[i] })
		h := sum(sc, text)
		f, p := fetch(t, sc, h), newPlain(sc, h)
		r := player{rnd, sc, texts, p}
		var row []call
		for range 120 {
			c := r.call()
			got, want := do(f, c), do(p, c)
			if got != want {
				t.Fatalf("P23.4 to P23.10: seed %d: %v answers %v, want %v, behind %v", seed, c, got, want, row)
			}
			if c.name == "Take" && got.yes {
				ends++
			}
			if got.e == api.ErrPartLie {
				lies++
			}
			row = append(row, c)
		}
	}
	if ends < 500 || lies < 500 {
		t.Errorf("only %d ends and %d lies were seen", ends, lies)
	}
}
