package client_test

import (
	"slices"
	"strings"
	"testing"

	"torrent/api"
)

// P24.8: what is no extended message, no wish, no sheet closes the connection, whether it is able or not.
func TestBadExtended(t *testing.T) {
	x := one(t)
	long := strings.Repeat("x", api.MaxFrame-2)
	for what, s := range both(t, x) {
		for _, c := range []struct {
			b   []byte
			why api.Errno
		}{
			{framed([]byte{20}), api.ErrExtShort},
			{ext(0, ""), api.ErrTextEnd}, {ext(0, "x"), api.ErrTextByte}, {ext(0, "d1:mdeex"), api.ErrTextTrail}, {ext(0, "d1:v1:x1:mdee"), api.ErrTextKey},
			{ext(0, "de"), api.ErrExtForm}, {ext(0, "d1:md1:ai256eee"), api.ErrExtForm}, {ext(0, "d1:mde13:metadata_sizei0ee"), api.ErrExtForm},
			{ext(0, "d1:mde13:metadata_sizei1048577ee"), api.ErrExtForm}, {ext(0, long), api.ErrTextByte},
			{ext(1, ""), api.ErrTextEnd}, {ext(1, "de"), api.ErrExtForm}, {ext(1, askText(-1)), api.ErrExtForm}, {ext(1, askText(0)+"x"), api.ErrExtForm},
			{ext(1, noText(0)+"x"), api.ErrExtForm}, {ext(1, dataText(0, 0, nil)), api.ErrExtForm}, {ext(1, "d8:msg_typei1e5:piecei0ee"), api.ErrExtForm}, {ext(1, long), api.ErrTextByte},
		} {
			for _, hello := range [][]byte{x.able(), x.hello()} {
				s.join(2)
				s.says(2, hello)
				acts(t, what, s.says(2, c.b), drops(c.why, 2))
				s.peers(what)
			}
		}
	}
}

// P24.8: what nobody knows is let go: other numbers, whatever they bring, and sheets of other kinds.
func TestUnknownExtended(t *testing.T) {
	x := one(t)
	for what, s := range both(t, x) {
		s.meets(2)
		for number := 2; number < 256; number++ {
			for _, payload := range []string{"", "x", askText(0), wishText(3, 7), "de"} {
				acts(t, what+": number "+num(number), s.says(2, ext(number, payload)))
			}
		}
		for _, kind := range []string{"3", "-1", "255", "77777"} {
			acts(t, what+": kind "+kind, s.says(2, ext(1, "d8:msg_typei"+kind+"ee"), ext(1, "d8:msg_typei"+kind+"e5:piecei0eexyz")))
		}
		s.peers(what, 2)
	}
}

// P24.8: wishes are laid over one another: what a later one doesn't tell stays. Who has told a size and a number for parts is asked.
func TestWishes(t *testing.T) {
	x := one(t)
	n := len(x.dict)
	size := "13:metadata_sizei" + num(n) + "e"
	ask := func(number int) []byte { return ext(number, askText(0)) }
	for name, c := range map[string]struct {
		wishes []string
		want   [][]byte // what comes of each; nil: nothing
	}{
		"all at once":                    {[]string{wishText(3, n)}, [][]byte{ask(3)}},
		"the greatest number":            {[]string{wishText(255, n)}, [][]byte{ask(255)}},
		"our own number":                 {[]string{wishText(1, n)}, [][]byte{ask(1)}},
		"switched off":                   {[]string{wishText(0, n)}, [][]byte{nil}},
		"no size":                        {[]string{wishText(3, 0)}, [][]byte{nil}},
		"no number":                      {[]string{"d1:mde" + size + "e"}, [][]byte{nil}},
		"another extension":              {[]string{"d1:md6:ut_pexi3ee" + size + "e"}, [][]byte{nil}},
		"among other extensions":         {[]string{"d1:md1:ai7e11:ut_metadatai4e6:ut_pexi3ee" + size + "1:v1:xe"}, [][]byte{ask(4)}},
		"first the size":                 {[]string{"d1:mde" + size + "e", wishText(3, 0)}, [][]byte{nil, ask(3)}},
		"first the number":               {[]string{wishText(3, 0), "d1:mde" + size + "e"}, [][]byte{nil, ask(3)}},
		"the number between others":      {[]string{"d1:md1:ai1eee", wishText(9, 0), "d1:md1:zi2eee", "d1:mde" + size + "e"}, [][]byte{nil, nil, nil, ask(9)}},
		"another number":                 {[]string{wishText(3, 0), wishText(4, 0), "d1:mde" + size + "e"}, [][]byte{nil, nil, ask(4)}},
		"switched off ahead of the size": {[]string{wishText(3, 0), wishText(0, 0), "d1:mde" + size + "e"}, [][]byte{nil, nil, nil}},
		"switched on behind the size":    {[]string{wishText(0, n), "d1:mdee", wishText(3, 0)}, [][]byte{nil, nil, ask(3)}},
		"the same again":                 {[]string{wishText(3, n), wishText(3, n), wishText(4, n)}, [][]byte{ask(3), nil, nil}},
	} {
		s := x.waiting(t)
		s.meets(2)
		for i, w := range c.wishes {
			var want []api.Act
			if c.want[i] != nil {
				want = sends(2, c.want[i])
			}
			acts(t, name+": the wish "+num(i), s.says(2, ext(0, w)), want)
		}
		s = x.waiting(t)
		s.meets(2)
		var all, want [][]byte
		for i, w := range c.wishes {
			all = append(all, ext(0, w))
			if c.want[i] != nil && len(want) == 0 {
				want = append(want, ask(numberOf(c.wishes)))
			}
		}
		acts(t, name+": all in one call", s.says(2, all...), sends(2, want...))
	}
}

// numberOf is the last number for parts that wishes tell.
func numberOf(wishes []string) int {
	n := 0
	for _, w := range wishes {
		if _, rest, ok := strings.Cut(w, "ut_metadatai"); ok {
			n = 0
			for _, c := range rest[:strings.Index(rest, "e")] {
				n = 10*n + int(c-'0')
			}
		}
	}
	return n
}

// P24.8: a peer that says another size than before is dropped, but while the torrent is running nobody cares.
func TestAnotherSize(t *testing.T) {
	x := one(t)
	s := x.waiting(t)
	s.offers(2)
	acts(t, "no size", s.says(2, ext(0, wishText(3, 0))))
	acts(t, "another size", s.says(2, ext(0, wishText(3, len(x.dict)-1))), drops(api.ErrPartSize, 2))
	s.meets(2)
	acts(t, "two sizes at once", s.says(2, ext(0, wishText(3, 9)), ext(0, wishText(3, 8))), drops(api.ErrPartSize, 2))
	s = x.running(t)
	s.meets(2)
	acts(t, "running", s.says(2, ext(0, wishText(3, 9)), ext(0, wishText(3, 8))))
	s.peers("running", 2)
}

// P24.8: who asks for a part is given it under its own number, if it is there; without a number nothing is said.
func TestGive(t *testing.T) {
	x := one(t)
	s := x.running(t)
	s.meets(2)
	for i := range 5 {
		acts(t, "no number", s.says(2, ext(1, askText(i))))
	}
	for _, number := range []int{3, 255, 1, 0, 9} {
		acts(t, "a wish", s.says(2, ext(0, wishText(number, 0))))
		for i, b := range x.parts() {
			var want []api.Act
			if number != 0 {
				want = sends(2, ext(number, dataText(i, len(x.dict), b)))
			}
			acts(t, "a part", s.says(2, ext(1, askText(i))), want)
		}
		for _, i := range []int{len(x.parts()), 100, 1 << 40} {
			var want []api.Act
			if number != 0 {
				want = sends(2, ext(number, noText(i)))
			}
			acts(t, "no part", s.says(2, ext(1, askText(i))), want)
		}
	}
	acts(t, "the same again", s.says(2, ext(1, askText(1)), ext(1, askText(1))), sends(2, ext(9, x.part(1)), ext(9, x.part(1))))
	s = x.waiting(t)
	s.meets(2)
	acts(t, "no number", s.says(2, ext(1, askText(0))))
	acts(t, "a wish", s.says(2, ext(0, wishText(3, 0))))
	for _, i := range []int{0, 1, 1 << 40} {
		acts(t, "waiting", s.says(2, ext(1, askText(i))), sends(2, ext(3, noText(i))))
	}
}

// P24.8: the parts that are given are those of the text's own info dictionary, whatever else the text has.
func TestGiveOfAnyText(t *testing.T) {
	x := one(t)
	y := *x
	y.text = slices.Concat([]byte("d1:a4:info4:info"), x.dict, x.text[len("d4:info")+len(x.dict):len(x.text)-1], []byte("1:zi7ee"))
	s := y.running(t)
	s.meets(2)
	acts(t, "a wish", s.says(2, ext(0, wishText(3, 0))))
	for i := range x.parts() {
		acts(t, "a part", s.says(2, ext(1, askText(i))), sends(2, ext(3, x.part(i))))
	}
	if b, e := s.c.Text(0); e != api.OK || string(b) != string(y.text) {
		t.Errorf("Text = %q, %d", b, e)
	}
}

// P24.8, P24.10: the parts are asked for one at a time, from the first on, of each peer for itself.
func TestParts(t *testing.T) {
	x := one(t)
	s := x.waiting(t)
	for _, peer := range []int{5, 2} {
		s.offers(peer)
	}
	ask := func(i int) []byte { return ext(3, askText(i)) }
	acts(t, "not asked for", s.says(2, ext(1, x.part(1))))
	acts(t, "asked of another, too", s.says(5, ext(1, x.part(0))), sends(5, ask(1)))
	acts(t, "the same again", s.says(5, ext(1, x.part(0))))
	acts(t, "two at once: the second was not asked for then", s.says(2, ext(1, x.part(0)), ext(1, x.part(1))), sends(2, ask(1)))
	acts(t, "one that is not there", s.says(2, ext(1, noText(1))), sends(2, ask(2)))
	acts(t, "not asked for", s.says(2, ext(1, noText(1)), ext(1, noText(3)), ext(1, noText(0))))
	acts(t, "one behind it", s.says(2, ext(1, x.part(2))), sends(2, ask(3)))
	acts(t, "the last one", s.says(2, s.last()))
	s.phase("one part is lacking", api.PhaseWaiting, api.OK)
	acts(t, "no more", s.says(2, s.last(), ext(1, x.part(1))))
	s.peers("no more", 2, 5)
	acts(t, "the other one goes on", s.says(5, ext(1, x.part(1))), sends(5, ask(2)))
}

// P24.8: parts that can't be right close the connection; those that nobody asked for don't.
func TestWrongParts(t *testing.T) {
	x := one(t)
	n := len(x.dict)
	last := len(x.parts()) - 1
	for name, c := range map[string]struct {
		from int // the part that is out
		s    string
		why  api.Errno
	}{
		"another total":           {0, dataText(0, n+1, x.parts()[0]), api.ErrPartSize},
		"no bytes":                {0, dataText(0, n, nil), api.ErrPartLen},
		"too few bytes":           {1, dataText(1, n, x.parts()[1][:63]), api.ErrPartLen},
		"too many bytes":          {1, dataText(1, n, append(x.parts()[1], 0)), api.ErrPartLen},
		"too many at the end":     {last, dataText(last, n, append(x.parts()[last], 0)), api.ErrPartLen},
		"the total ahead of them": {0, dataText(0, n+1, nil), api.ErrPartSize},
		"not asked for":           {0, dataText(1, n+1, nil), api.OK},
	} {
		s := x.waiting(t)
		s.offers(2)
		for i := range c.from {
			s.says(2, ext(1, x.part(i)))
		}
		if c.why == api.OK {
			acts(t, name, s.says(2, ext(1, c.s)))
			s.peers(name, 2)
		} else {
			acts(t, name, s.says(2, ext(1, c.s)), drops(c.why, 2))
			s.peers(name)
			acts(t, name, s.join(2), sends(2, x.ours()))
		}
	}
	s := x.running(t)
	s.meets(2)
	acts(t, "running", s.says(2, ext(0, wishText(3, n)), ext(1, dataText(0, 9, nil)), ext(1, noText(0)), ext(1, x.part(0))))
	s.peers("running", 2)
}

// P24.8: all parts of a peer, and they are not the info dictionary: it is banned, the others go on; what follows in the same call is let go.
func TestLie(t *testing.T) {
	x := one(t)
	s := x.waiting(t)
	s.offers(3)
	s.lies(2)
	s.offers(4)
	s.given(4)
	b := s.last()
	b[len(b)-3] ^= 1
	acts(t, "a lie, and more", s.says(4, b, ext(0, "x"), ext(1, askText(0)), []byte{1, 0, 0, 0}), bans(api.ErrPartLie, 4))
	acts(t, "banned", s.join(4), drops(api.ErrBanned, 4))
	acts(t, "banned", s.join(2), drops(api.ErrBanned, 2))
	s.peers("banned", 3)
	s.given(3)
	acts(t, "the turn", s.says(3, s.last()), []api.Act{{Kind: api.ActFile, File: 2}})
	s.phase("the turn", api.PhaseRunning, api.OK)
	acts(t, "banned", s.join(2), drops(api.ErrBanned, 2))
}

// P24.10: who has a number for parts and a size is asked, rising, and by that number.
func TestAsking(t *testing.T) {
	x := one(t)
	n := len(x.dict)
	s := x.waiting(t)
	for _, peer := range []int{7, 1, 4, 2} {
		s.meets(peer)
		acts(t, "a size", s.says(peer, ext(0, "d1:mde13:metadata_sizei"+num(n)+"ee")))
	}
	for _, peer := range []int{7, 1, 4} {
		acts(t, "a number", s.says(peer, ext(0, wishText(10+peer, 0))), sends(peer, ext(10+peer, askText(0))))
	}
	ticks := s.ticks(8)
	alive := []byte{0, 0, 0, 0}
	acts(t, "late", ticks, sends(1, alive), sends(2, alive), sends(4, alive), sends(7, alive), sends(1, ext(11, askText(0))), sends(4, ext(14, askText(0))), sends(7, ext(17, askText(0))))
	acts(t, "switched off", s.says(4, ext(0, wishText(0, 0))))
	acts(t, "a part all the same", s.says(4, ext(1, x.part(0))))
	acts(t, "switched on", s.says(4, ext(0, wishText(200, 0))), sends(4, ext(200, askText(1))))
}
