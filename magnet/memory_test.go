package magnet_test

import (
	"testing"

	"torrent/api"
	"torrent/magnet"
)

// sample is the link of full, in new memory each time.
func sample() api.Link {
	return api.Link{Info: info, Name: "a b", Trackers: texts("http://t/?a", "u"), Peers: texts("1.2.3.4:5", "\xff"), Only: runs(run(0, 1), run(2, 1), run(4, 3)), More: pairs(pair("a ", "&"), pair("zz", ""))}
}

// roomy is a copy of a list with spare room that can be seen again.
func roomy[T any](l []T, spare T) []T {
	return append(append(make([]T, 0, len(l)+2), l...), spare, spare)[:len(l)]
}

// roomyLink is a link whose lists have spare room.
func roomyLink(l api.Link) api.Link {
	l.Trackers, l.Peers = roomy(l.Trackers, "spare"), roomy(l.Peers, "spare")
	l.Only, l.More = roomy(l.Only, run(77, 7)), roomy(l.More, pair("spare", "spare"))
	return l
}

// whole is a link with the spare room of its lists.
func whole(l api.Link) api.Link {
	l.Trackers, l.Peers = l.Trackers[:cap(l.Trackers)], l.Peers[:cap(l.Peers)]
	l.Only, l.More = l.Only[:cap(l.Only)], l.More[:cap(l.More)]
	return l
}

// deface writes over all that a link reaches, the spare room of its lists too.
func deface(l api.Link) {
	l = whole(l)
	for _, list := range [][]string{l.Trackers, l.Peers} {
		for i := range list {
			list[i] = "defaced"
		}
	}
	for i := range l.Only {
		l.Only[i] = run(99, 9)
	}
	for i := range l.More {
		l.More[i] = pair("defaced", "defaced")
	}
}

// P22.8: a link that is handed in is not changed, its spare room neither, and not kept.
func TestLinksAreNotKept(t *testing.T) {
	good, twins := roomyLink(sample()), roomyLink(api.Link{Trackers: texts("c", "b", "a", "b"), Peers: texts("z", "y", "z")})
	before, beforeTwins := show(whole(good)), show(whole(twins))
	text, e := magnet.Print(good)
	if text != full || e != api.OK || magnet.Check(good) != api.OK || !magnet.Wanted(good, 6) || magnet.Check(twins) != api.ErrLinkTwice {
		t.Fatalf("%q, %d", text, e)
	}
	if show(whole(good)) != before || show(whole(twins)) != beforeTwins {
		t.Error("P22.8: a link that was handed in is changed")
	}
	deface(good)
	if again, _ := magnet.Print(sample()); text != full || again != full {
		t.Error("P22.8: an answer changes with the link that was handed in")
	}
}

// P22.8: each link that is answered is new memory, and so is each list in it.
func TestLinksShareNothing(t *testing.T) {
	first, _, _ := magnet.Parse(full)
	second, _, e := magnet.Parse(full)
	want := show(sample())
	if show(first) != want || e != api.OK {
		t.Fatalf("%s, %d", show(first), e)
	}
	deface(first)
	third, _, _ := magnet.Parse(full)
	if show(second) != want || show(third) != want {
		t.Error("P22.8: what is written into an answer is seen elsewhere")
	}
	_ = append(second.Trackers, "new", "new")
	_ = append(second.Peers, "new", "new")
	_ = append(second.Only, run(9, 9), run(9, 9))
	_ = append(second.More, pair("new", "new"), pair("new", "new"))
	_ = append(second.More[0].Val.List, str("new"))
	_ = append(second.More[1].Val.Dict, pair("new", "new"))
	if show(second) != want {
		t.Error("P22.8: what is appended to one list of an answer is seen in another")
	}
}

// P0.3: what is answered hangs on what is handed in alone.
func TestAnswersStay(t *testing.T) {
	for range 3 {
		if _, at, e := magnet.Parse(full + "&a=1"); at != len(full)+1 || e != api.ErrLinkOrder {
			t.Errorf("P0.3: %d, %d", at, e)
		}
		if l, at, e := magnet.Parse(full); show(l) != show(sample()) || at != 0 || e != api.OK {
			t.Errorf("P0.3: %s, %d, %d", show(l), at, e)
		}
	}
}
