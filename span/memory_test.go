package span_test

import (
	"slices"
	"testing"

	"torrent/api"
	"torrent/span"
)

// answers are what all calls tell of a text at a path, as lists that a caller may write into.
type answers struct {
	spans            []api.Span
	keys             []string
	whole, put, grow []byte
	cut, all         []byte
}

func ask(b []byte, p []api.Step, v []byte) answers {
	var a answers
	a.spans, _, _ = span.Skim(b)
	a.keys, _ = span.Keys(b, p)
	a.whole, _ = span.Whole(b, p)
	a.put, _ = span.Put(b, p, v)
	a.grow, _ = span.Put(b, append(slices.Clip(p), key("new")), v)
	a.cut, _ = span.Cut(b, p)
	a.all, _ = span.Put(b, nil, v)
	return a
}

func (a answers) equal(b answers) bool {
	return slices.Equal(a.spans, b.spans) && slices.Equal(a.keys, b.keys) && slices.Equal(a.whole, b.whole) && slices.Equal(a.put, b.put) &&
		slices.Equal(a.grow, b.grow) && slices.Equal(a.cut, b.cut) && slices.Equal(a.all, b.all)
}

// spoil writes over all that answers have, their spare room too.
func (a answers) spoil() {
	for _, l := range [][]byte{a.whole, a.put, a.grow, a.cut, a.all} {
		l = l[:cap(l)]
		for i := range l {
			l[i] = '#'
		}
	}
	clear(a.spans[:cap(a.spans)])
	clear(a.keys[:cap(a.keys)])
}

// P3.10: what is handed in is not changed, its spare room neither, and what is answered does not hang on it.
func TestArguments(t *testing.T) {
	room := []byte(sample + "spare room, spare room, spare room")
	value := []byte("l1:veabcdefghijklmnopqrstuvwxyz")
	steps := []api.Step{key("a"), key("x"), key("y"), key("z")}
	b, v, p := room[:len(sample)], value[:5], steps[:1]
	a := ask(b, p, v)
	if string(room) != sample+"spare room, spare room, spare room" || string(value) != "l1:veabcdefghijklmnopqrstuvwxyz" {
		t.Errorf("changed: %q, %q", room, value)
	}
	if !slices.Equal(steps, []api.Step{key("a"), key("x"), key("y"), key("z")}) {
		t.Errorf("changed: %v", steps)
	}
	fresh := ask([]byte(sample), path(key("a")), []byte("l1:ve"))
	clear(room)
	clear(value)
	clear(steps)
	if !a.equal(fresh) || string(a.whole) != "d1:bi7e1:cli1e2:xxee" || string(a.put) != "d1:al1:vee" || string(a.cut) != "de" || string(a.all) != "l1:ve" {
		t.Errorf("answers have changed with what was handed in: %v", a)
	}
}

// P3.10, P0.5: an answer shares no memory with an argument or with another answer, its spare room neither.
func TestAnswers(t *testing.T) {
	b, v := []byte(sample), []byte("l1:ve")
	for _, p := range [][]api.Step{path(key("a")), path(key("a"), key("c")), path(key("a"), key("b"))} {
		want := ask(b, p, v)
		ask(b, p, v).spoil()
		if string(b) != sample || string(v) != "l1:ve" {
			t.Fatalf("an argument was written into: %q, %q", b, v)
		}
		if !ask(b, p, v).equal(want) {
			t.Errorf("%v: another answer was written into", p)
		}
	}
}

// P0.5: nil and empty are the same, in texts and in paths.
func TestNil(t *testing.T) {
	if _, place, e := span.Skim(nil); place != 0 || e != api.ErrTextEnd {
		t.Errorf("Skim(nil): %d, %d", place, e)
	}
	if _, e := span.Put([]byte("le"), []api.Step{}, nil); e != api.ErrPut {
		t.Errorf("Put of nil: %d", e)
	}
	if _, e := span.Cut([]byte("le"), []api.Step{}); e != api.ErrWhole {
		t.Errorf("Cut at an empty path: %d", e)
	}
	if k, e := span.Keys([]byte("de"), []api.Step{}); len(k) != 0 || e != api.OK {
		t.Errorf("Keys of an empty dictionary: %q, %d", k, e)
	}
}
