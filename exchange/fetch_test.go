package exchange_test

import (
	"fmt"
	"math"
	"slices"
	"testing"

	"torrent/api"
)

// P23.3: no peer has said or given anything.
func TestNewHasNothing(t *testing.T) {
	f := fetch(t, own, api.Hash{})
	walk(t, "P23.3", f,
		step{info(), none},
		step{expire(math.MaxInt), none},
		step{next(0, 0), none},
		step{take(0, 0, 0, nil), errno(api.ErrUnasked)},
		step{refuse(0, 0), errno(api.ErrUnasked)},
		step{drop(0), fine},
		step{next(math.MaxInt, math.MaxInt), none})
}

// P23.3: an infohash that no text can have: the fetch is made, and all are lies.
func TestInfohashBehindWidth(t *testing.T) {
	for _, width := range []int{1, 2, 31} {
		sc, text := api.Scale{Block: 64, Width: width}, some(100)
		h := sum(sc, text)
		h[31] = 1
		f := fetch(t, sc, h)
		walk(t, "P23.3", f, step{size(3, 100), fine})
		for range 3 {
			walk(t, "P23.3, P23.6", f, whole(3, 0, 64, text, errno(api.ErrPartLie))...)
		}
		walk(t, "P23.3, P23.10", f, step{info(), none})
	}
}

// P23.4: both ends of the sizes; the peer ahead of the size; what was said stays.
func TestSize(t *testing.T) {
	for _, n := range []int{1, 2, 63, 64, 65, 1048575, 1048576} {
		f := fetch(t, own, api.Hash{})
		bad := []int{0, -1, 1048577, math.MaxInt, math.MinInt}
		for _, m := range bad {
			walk(t, "P23.4", f,
				step{size(9, m), errno(api.ErrPartSize)},
				step{next(9, 0), none},
				step{size(-1, m), errno(api.ErrArg)},
				step{size(math.MinInt, m), errno(api.ErrArg)})
		}
		walk(t, "P23.4", f, step{size(9, n), fine}, step{size(9, n), fine})
		for _, m := range append(bad, n-1, n+1, n+64) {
			walk(t, "P23.4", f,
				step{size(9, m), errno(api.ErrPartSize)},
				step{size(9, n), fine})
		}
		walk(t, "P23.4, P23.5", f, step{next(9, 0), named(0)}, step{size(9, n), fine}, step{next(9, 0), none})
	}
}

// P23.4: a peer's size has nothing to do with another's, and saying it again changes nothing of what it gave.
func TestSizesApart(t *testing.T) {
	text := some(150)
	f := fetch(t, own, sum(own, text))
	walk(t, "P23.4", f,
		step{size(0, 150), fine},
		step{size(1, 64), fine},
		step{size(math.MaxInt, 1048576), fine},
		step{next(0, 5), named(0)},
		step{size(0, 150), fine},
		step{give(0, 64, text, 0), fine},
		step{size(0, 150), fine},
		step{next(0, 5), named(1)},
		step{size(0, 64), errno(api.ErrPartSize)},
		step{refuse(0, 1), fine},
		step{size(0, 150), fine},
		step{next(0, 5), named(2)},
		step{next(1, 5), named(0)},
		step{next(math.MaxInt, math.MaxInt), named(0)})
}

// P23.5 to P23.9: numbers below 0, ahead of everything else, and nothing changes by them.
func TestBelowZero(t *testing.T) {
	text := some(150)
	f := fetch(t, own, sum(own, text))
	walk(t, "P23.5", f, step{size(4, 150), fine}, step{next(4, 7), named(0)})
	for _, n := range []int{-1, -4, math.MinInt} {
		walk(t, "P23.4 to P23.9", f,
			step{next(n, 0), errno(api.ErrArg)},
			step{next(4, n), errno(api.ErrArg)},
			step{next(5, n), errno(api.ErrArg)},
			step{next(n, n), errno(api.ErrArg)},
			step{take(n, 0, 150, text[:64]), errno(api.ErrArg)},
			step{take(n, n, n, nil), errno(api.ErrArg)},
			step{take(4, n, 150, text[:64]), errno(api.ErrUnasked)},
			step{refuse(n, 0), errno(api.ErrArg)},
			step{refuse(n, n), errno(api.ErrArg)},
			step{refuse(4, n), errno(api.ErrUnasked)},
			step{drop(n), errno(api.ErrArg)},
			step{expire(n), none})
	}
	walk(t, "P0.2", f, step{next(4, 7), none}, step{give(4, 64, text, 0), fine}, step{next(4, 7), named(1)})
	for _, c := range []call{next(-1, 0), next(4, -1), take(-1, 1, 150, nil), refuse(-1, 1), drop(-1)} {
		walk(t, "P0.2", f, step{c, errno(api.ErrArg)})
	}
	walk(t, "P0.2", f, step{expire(14), none}, step{expire(15), answer{text: "[4]"}})
}

// P23.5: the lowest part that was neither given nor refused, one at a time.
func TestNext(t *testing.T) {
	text := some(64 * 6)
	for mask := range 1 << 6 { // the parts that are refused
		f := fetch(t, own, sum(own, text))
		walk(t, "P23.5", f, step{next(2, 0), none}, step{size(2, len(text)), fine})
		for i := range 6 {
			walk(t, "P23.5", f, step{next(2, i), named(i)}, step{next(2, i), none}, step{next(2, 1000), none})
			switch {
			case mask>>i&1 == 1:
				walk(t, "P23.7", f, step{refuse(2, i), fine}, step{refuse(2, i), errno(api.ErrUnasked)}, step{give(2, 64, text, i), errno(api.ErrUnasked)})
			case i < 5 || mask != 0:
				walk(t, "P23.6", f, step{give(2, 64, text, i), fine}, step{give(2, 64, text, i), errno(api.ErrUnasked)}, step{refuse(2, i), errno(api.ErrUnasked)})
			default:
				walk(t, "P23.6", f, step{give(2, 64, text, i), last})
			}
		}
		walk(t, "P23.5", f, step{next(2, 99), none}, step{expire(999), none})
		want := none
		if mask == 0 {
			want = answer{yes: true, text: string(text)}
		}
		walk(t, fmt.Sprintf("P23.10, refused %b", mask), f, step{info(), want})
	}
}

// P23.6: every part number, every total, every length but the one that is asked for.
func TestTakeRefusesOthers(t *testing.T) {
	text := some(150)
	f := fetch(t, own, sum(own, text))
	walk(t, "P23.6", f, step{size(4, 150), fine}, step{size(5, 150), fine})
	for part := range 3 {
		true1 := cut(64, text, part)
		walk(t, "P23.5", f, step{next(4, 0), named(part)})
		for _, other := range []int{part - 1, part + 1, -1, 3, math.MaxInt, math.MinInt, part + 1<<32} {
			walk(t, "P23.6, P23.7", f,
				step{take(4, other, 150, true1), errno(api.ErrUnasked)},
				step{take(4, other, 151, nil), errno(api.ErrUnasked)},
				step{refuse(4, other), errno(api.ErrUnasked)})
		}
		walk(t, "P23.6", f, step{take(5, part, 150, true1), errno(api.ErrUnasked)}, step{refuse(5, part), errno(api.ErrUnasked)}, step{next(4, 0), none})
		for _, total := range []int{0, -1, -150, 149, 151, 64, 22, 1048576, 1048577, math.MaxInt, math.MinInt, 150 + 1<<32} {
			walk(t, "P23.6", f,
				step{take(4, part, total, true1), errno(api.ErrPartSize)},
				step{take(4, part, 150, true1), errno(api.ErrUnasked)},
				step{next(4, 0), named(part)},
				step{take(4, part, total, nil), errno(api.ErrPartSize)},
				step{next(4, 0), named(part)})
		}
		for n := range 130 {
			if n != len(true1) {
				walk(t, "P23.6", f,
					step{take(4, part, 150, make([]byte, n)), errno(api.ErrPartLen)},
					step{refuse(4, part), errno(api.ErrUnasked)},
					step{next(4, 0), named(part)})
			}
		}
		walk(t, "P23.6", f, step{take(4, part, 150, text), errno(api.ErrPartLen)}, step{next(4, 0), named(part)})
		walk(t, "P23.6", f, step{give(4, 64, text, part), answer{yes: part == 2}})
	}
}

// P23.6: one byte, wherever it is, makes a lie; all may be asked for again.
func TestLie(t *testing.T) {
	text := some(150)
	f := fetch(t, own, sum(own, text))
	walk(t, "P23.4", f, step{size(8, 150), fine}, step{size(9, 86), fine})
	for at := range text {
		walk(t, "P23.6", f, whole(8, at, 64, changed(text, at), errno(api.ErrPartLie))...)
		walk(t, "P23.6, P23.10", f, step{info(), none}, step{take(8, 2, 150, text[128:]), errno(api.ErrUnasked)})
	}
	swapped := slices.Concat(text[64:128], text[:64], text[128:])
	walk(t, "P23.6", f, whole(8, 0, 64, swapped, errno(api.ErrPartLie))...)
	walk(t, "P23.6", f, whole(9, 0, 64, text[64:], errno(api.ErrPartLie))...)
	walk(t, "P23.6", f, step{size(8, 149), errno(api.ErrPartSize)})
	walk(t, "P23.6", f, whole(8, 0, 64, text, last)...)
	walk(t, "P23.10", f, step{info(), answer{yes: true, text: string(text)}})
}

// P23.6, P23.7: a peer that refused a part never gives all, and what it refused it refused.
func TestRefusedStays(t *testing.T) {
	text := some(130)
	for refused := range 3 {
		f := fetch(t, own, sum(own, text))
		walk(t, "P23.4", f, step{size(1, 130), fine})
		for i := range 3 {
			walk(t, "P23.5", f, step{next(1, 0), named(i)})
			if i == refused {
				walk(t, "P23.7", f, step{refuse(1, i), fine})
			} else {
				walk(t, "P23.6", f, step{give(1, 64, text, i), fine})
			}
		}
		walk(t, "P23.5", f, step{next(1, 0), none}, step{info(), none}, step{size(1, 130), fine}, step{next(1, 0), none}, step{expire(99), none}, step{next(1, 0), none})
		walk(t, "P23.9", f, step{drop(1), fine}, step{next(1, 0), none}, step{size(1, 130), fine})
		walk(t, "P23.9", f, whole(1, 0, 64, text, last)...)
	}
}

// P23.6, P23.10: when the text is there nothing is out at anybody, and nobody is asked any more.
func TestThere(t *testing.T) {
	text := some(150)
	f := fetch(t, own, sum(own, text))
	for _, peer := range []int{0, 3, 5, 7} {
		walk(t, "P23.4", f, step{size(peer, 150), fine})
	}
	walk(t, "P23.5", f, step{next(0, 0), named(0)}, step{next(3, 0), named(0)}, step{give(3, 64, text, 0), fine}, step{next(3, 1), named(1)})
	walk(t, "P23.6", f, whole(5, 2, 64, text, last)...)
	for range 2 {
		walk(t, "P23.6, P23.10", f,
			step{take(0, 0, 150, text[:64]), errno(api.ErrUnasked)},
			step{take(3, 1, 150, text[64:128]), errno(api.ErrUnasked)},
			step{refuse(3, 1), errno(api.ErrUnasked)},
			step{expire(math.MaxInt), none},
			step{next(0, 9), none}, step{next(3, 9), none}, step{next(5, 9), none}, step{next(7, 9), none}, step{next(8, 9), none},
			step{next(-1, 9), errno(api.ErrArg)},
			step{size(0, 150), fine},
			step{size(0, 151), errno(api.ErrPartSize)},
			step{size(5, 149), errno(api.ErrPartSize)},
			step{size(7, 1), errno(api.ErrPartSize)},
			step{size(8, 0), errno(api.ErrPartSize)},
			step{info(), answer{yes: true, text: string(text)}})
	}
	for _, peer := range []int{0, 3, 5, 7, 99} {
		walk(t, "P23.9", f,
			step{drop(peer), fine},
			step{size(peer, 64), fine},
			step{size(peer, 150), errno(api.ErrPartSize)},
			step{next(peer, 0), none},
			step{info(), answer{yes: true, text: string(text)}})
	}
}

// P23.8: just Patience ticks, whichever way the time goes; the peers rise, and none is told twice.
func TestExpire(t *testing.T) {
	f := fetch(t, own, api.Hash{})
	since := []struct{ peer, at int }{{70, 0}, {3, 8}, {math.MaxInt, 7}, {0, 8}, {12, 100}, {5, math.MaxInt - 8}, {6, math.MaxInt - 7}, {7, math.MaxInt}}
	for _, s := range since {
		walk(t, "P23.5", f, step{size(s.peer, 64), fine}, step{next(s.peer, s.at), named(0)})
	}
	walk(t, "P23.8", f,
		step{expire(0), none},
		step{expire(7), none},
		step{expire(math.MinInt), none},
		step{expire(8), answer{text: "[70]"}},
		step{expire(8), none},
		step{expire(15), answer{text: fmt.Sprint([]int{math.MaxInt})}},
		step{next(70, 200), named(0)},
		step{expire(16), answer{text: "[0 3]"}},
		step{expire(3), none},
		step{expire(107), none},
		step{expire(207), answer{text: "[12]"}},
		step{refuse(70, 0), fine},
		step{expire(math.MaxInt), answer{text: "[5]"}},
		step{expire(math.MaxInt), none},
		step{next(5, 0), named(0)},
		step{refuse(6, 0), fine},
		step{refuse(7, 0), fine},
		step{refuse(3, 0), errno(api.ErrUnasked)},
		step{expire(7), none},
		step{expire(8), answer{text: "[5]"}})
}

// P23.8: many peers, rising, whichever order they came in.
func TestExpireRises(t *testing.T) {
	f := fetch(t, own, api.Hash{})
	var want []int
	for i := range 1000 {
		peer := i * 7919 % 1000 * 3
		walk(t, "P23.5", f, step{size(peer, 1), fine}, step{next(peer, i), named(0)})
		if i <= 492 {
			want = append(want, peer)
		}
	}
	slices.Sort(want)
	walk(t, "P23.8", f, step{expire(500), answer{text: fmt.Sprint(want)}}, step{expire(500), none})
}

// P23.8: what is late may be asked for again, and what was given stays given.
func TestLateAgain(t *testing.T) {
	text := some(150)
	f := fetch(t, own, sum(own, text))
	walk(t, "P23.8", f,
		step{size(4, 150), fine},
		step{next(4, 10), named(0)},
		step{give(4, 64, text, 0), fine},
		step{next(4, 20), named(1)},
		step{expire(28), answer{text: "[4]"}},
		step{give(4, 64, text, 1), errno(api.ErrUnasked)},
		step{refuse(4, 1), errno(api.ErrUnasked)},
		step{next(4, 2), named(1)}, // the time need not rise
		step{give(4, 64, text, 1), fine},
		step{next(4, 2), named(2)},
		step{expire(10), answer{text: "[4]"}},
		step{next(4, 10), named(2)},
		step{give(4, 64, text, 2), last})
}

// P23.9: nothing of a peer is kept, wherever it stands, and nothing of another is touched.
func TestDrop(t *testing.T) {
	text := some(150)
	for stage := range 7 {
		f := fetch(t, own, sum(own, text))
		walk(t, "P23.4", f, step{size(1, 150), fine}, step{size(2, 150), fine}, step{next(2, 0), named(0)}, step{give(2, 64, text, 0), fine}, step{next(2, 0), named(1)})
		steps := whole(1, 0, 64, text, last)[:min(stage, 5)]
		if stage == 6 {
			steps = append(steps, step{refuse(1, 2), fine})
		}
		walk(t, "P23.5", f, steps...)
		walk(t, "P23.9", f,
			step{drop(1), fine},
			step{drop(1), fine},
			step{next(1, 0), none},
			step{give(1, 64, text, 0), errno(api.ErrUnasked)},
			step{refuse(1, 1), errno(api.ErrUnasked)},
			step{expire(8), answer{text: "[2]"}},
			step{size(1, 65), fine},
			step{size(1, 150), errno(api.ErrPartSize)},
			step{next(1, 0), named(0)},
			step{take(1, 0, 65, text[:64]), fine},
			step{next(1, 0), named(1)},
			step{take(1, 1, 65, text[64:65]), errno(api.ErrPartLie)},
			step{next(2, 9), named(1)},
			step{give(2, 64, text, 1), fine},
			step{next(2, 9), named(2)},
			step{give(2, 64, text, 2), last})
	}
}

// P23.6: what several peers gave is not mixed, right or wrong.
func TestApart(t *testing.T) {
	text := some(150)
	f := fetch(t, own, sum(own, text))
	wrong := changed(text, 70)
	walk(t, "P23.6", f,
		step{size(1, 150), fine}, step{size(2, 150), fine},
		step{next(1, 0), named(0)}, step{next(2, 0), named(0)},
		step{give(2, 64, wrong, 0), fine}, step{give(1, 64, text, 0), fine},
		step{next(2, 0), named(1)}, step{next(1, 0), named(1)},
		step{give(1, 64, text, 1), fine}, step{give(2, 64, wrong, 1), fine},
		step{next(1, 0), named(2)}, step{next(2, 0), named(2)},
		step{give(2, 64, wrong, 2), errno(api.ErrPartLie)},
		step{next(2, 0), named(0)},
		step{give(1, 64, text, 2), last},
		step{info(), answer{yes: true, text: string(text)}})
}

// P23.6, P23.10: at a small Width another text with that digest is the text, whatever its size; the first that comes stays.
func TestTwin(t *testing.T) {
	text := some(150)
	for _, n := range []int{2, 64, 65, 150, 200} {
		other := twin(tiny, text, n)
		f := fetch(t, tiny, sum(tiny, text))
		walk(t, "P23.6", f, step{size(1, 150), fine}, step{size(2, n), fine})
		walk(t, "P23.6", f, whole(1, 0, 64, text, last)[:5]...)
		walk(t, "P23.6", f, whole(2, 0, 64, other, last)...)
		walk(t, "P23.10", f,
			step{give(1, 64, text, 2), errno(api.ErrUnasked)},
			step{info(), answer{yes: true, text: string(other)}})
	}
}

// P23.6: at all scales: the parts of the scale, and its digest.
func TestScales(t *testing.T) {
	for block := 64; block <= 16384; block *= 2 {
		for _, width := range []int{1, 3, 20, 32} {
			sc := api.Scale{Block: block, Width: width}
			for _, n := range []int{1, block - 1, block, block + 1, 3 * block} {
				text := some(n)
				f := fetch(t, sc, sum(sc, text))
				walk(t, "P23.4", f, step{size(0, n), fine})
				walk(t, fmt.Sprintf("P23.6 at %v", sc), f, whole(0, 0, block, text, last)...)
				walk(t, "P23.10", f, step{info(), answer{yes: true, text: string(text)}})
			}
		}
	}
}

// P23.6: the greatest text, of the most parts.
func TestGreatest(t *testing.T) {
	for _, c := range []struct{ block, size int }{{64, 1048576}, {16384, 1048576}, {16384, 1048575}, {1024, 1048575}} {
		sc, text := api.Scale{Block: c.block, Width: 32}, some(c.size)
		f := fetch(t, sc, sum(sc, text))
		walk(t, "P23.4", f, step{size(0, c.size), fine})
		walk(t, "P23.6", f, whole(0, 0, c.block, changed(text, c.size-1), errno(api.ErrPartLie))...)
		walk(t, "P23.6", f, whole(0, 0, c.block, text, last)...)
		walk(t, "P23.10", f, step{info(), answer{yes: true, text: string(text)}})
	}
}
