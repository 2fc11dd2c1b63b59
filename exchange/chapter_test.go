package exchange_test

import (
	"bytes"
	"testing"

	"torrent/api"
	"torrent/exchange"
)

// The examples 1 and 2 of the chapter.
func TestChapterParts(t *testing.T) {
	for _, c := range []struct {
		size, want int
		e          api.Errno
	}{{150, 3, 0}, {64, 1, 0}, {1048576, 16384, 0}, {0, 0, api.ErrPartSize}, {1048577, 0, api.ErrPartSize}} {
		if n, e := exchange.Parts(own, c.size); n != c.want || e != c.e {
			t.Errorf("P23.1: Parts(%d) = %d, %d", c.size, n, e)
		}
	}
	text := some(150)
	if p, e := exchange.Part(own, text, 2); !bytes.Equal(p, text[128:]) || e != api.OK {
		t.Errorf("P23.2: Part 2 = %v, %d", p, e)
	}
	for _, part := range []int{3, -1} {
		if p, e := exchange.Part(own, text, part); len(p) != 0 || e != api.ErrPartNone {
			t.Errorf("P23.2: Part %d = %v, %d", part, p, e)
		}
	}
	if p, e := exchange.Part(own, nil, 0); len(p) != 0 || e != api.ErrPartSize {
		t.Errorf("P23.2: Part of no bytes = %v, %d", p, e)
	}
}

// chapterStart are the examples 3 to 6.
func chapterStart(text []byte) []step {
	first, second, third := text[:64], text[64:128], text[128:]
	return []step{
		{next(4, 0), none},
		{size(4, 150), fine},
		{size(4, 150), fine},
		{size(4, 151), errno(api.ErrPartSize)},
		{size(5, 0), errno(api.ErrPartSize)},
		{size(-1, 150), errno(api.ErrArg)},

		{next(4, 0), named(0)},
		{next(4, 0), none},
		{take(4, 1, 150, second), errno(api.ErrUnasked)},
		{take(4, 0, 151, first), errno(api.ErrPartSize)},
		{next(4, 1), named(0)},
		{take(4, 0, 150, first[:63]), errno(api.ErrPartLen)},
		{next(4, 2), named(0)},
		{take(4, 0, 150, first), fine},
		{next(4, 3), named(1)},

		{expire(10), none},
		{expire(11), answer{text: "[4]"}},
		{next(4, 12), named(1)},
		{refuse(4, 1), fine},
		{next(4, 13), named(2)},
		{take(4, 2, 150, third), fine},
		{next(4, 14), none},

		{size(6, 150), fine},
		{next(6, 15), named(0)},
		{take(6, 0, 150, first), fine},
		{next(6, 15), named(1)},
		{take(6, 1, 150, second), fine},
		{next(6, 15), named(2)},
		{take(6, 2, 150, changed(third, 21)), errno(api.ErrPartLie)},
		{info(), none},
	}
}

// The examples 3 to 8.
func TestChapterFetch(t *testing.T) {
	text := some(150)
	end := []step{
		{next(6, 20), none},
		{next(4, 20), none},
		{drop(6), fine},
		{info(), answer{yes: true, text: string(text)}},
	}
	f := fetch(t, own, sum(own, text))
	walk(t, "the chapter's examples 3 to 6", f, chapterStart(text)...)
	walk(t, "the chapter's example 7", f, whole(6, 15, 64, text, last)...)
	walk(t, "the chapter's example 7", f, end...)

	f = fetch(t, own, sum(own, text))
	walk(t, "the chapter's examples 3 to 6", f, chapterStart(text)...)
	walk(t, "the chapter's example 8", f,
		step{drop(4), fine},
		step{next(4, 16), none},
		step{size(4, 22), fine},
		step{next(4, 17), named(0)})
	walk(t, "the chapter's examples 8 and 7", f, whole(6, 15, 64, text, last)...)
	walk(t, "the chapter's examples 8 and 7", f, end...)
}
