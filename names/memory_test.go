package names_test

import (
	"slices"
	"testing"

	"torrent/api"
	"torrent/names"
)

// answers are what all calls tell of one list of paths.
type answers struct {
	order   []int
	parts   [][]string
	joined  []string
	errors  []api.Errno
	i, j    int
	ordered []bool
}

func ask(paths [][]string) answers {
	var out answers
	order, e := names.Order(paths)
	out.order, out.errors = order, append(out.errors, e)
	out.i, out.j, e = names.Clash(paths)
	out.errors = append(out.errors, e)
	for _, p := range paths {
		s, e := names.Join(p)
		parts, f := names.Split(s)
		out.joined, out.parts = append(out.joined, s), append(out.parts, parts)
		out.errors = append(out.errors, e, f, names.Path(p))
		out.ordered = append(out.ordered, names.Less(p, paths[0]))
	}
	return out
}

func (a answers) equal(b answers) bool {
	return slices.Equal(a.order, b.order) && slices.EqualFunc(a.parts, b.parts, slices.Equal[[]string]) && slices.Equal(a.joined, b.joined) &&
		slices.Equal(a.errors, b.errors) && a.i == b.i && a.j == b.j && slices.Equal(a.ordered, b.ordered)
}

// spoil writes over all that answers have, their spare room too.
func (a answers) spoil() {
	clear(a.order[:cap(a.order)])
	for _, p := range a.parts {
		for i := range p[:cap(p)] {
			p[:cap(p)][i] = "spoilt"
		}
	}
}

func sample() [][]string { return [][]string{{"c"}, {"a", "b"}, {"x", "y", "z"}, {"a", "a"}} }

// P5.10: what is handed in is not changed, its spare room neither, and what was answered does not hang on it.
func TestArguments(t *testing.T) {
	paths := append(sample(), []string{"spare"}, []string{"room"})
	for i, p := range paths {
		paths[i] = append(p, "more", "room")[:len(p)]
	}
	for _, n := range []int{4, 6} {
		got := ask(paths[:n])
		for i, p := range append(sample(), []string{"spare"}, []string{"room"}) {
			if !slices.Equal(paths[i], p) || !slices.Equal(paths[i][:len(p)+2], append(p, "more", "room")) {
				t.Fatalf("path %d is now %q", i, paths[i][:len(p)+2])
			}
		}
		if want := ask(append(sample(), []string{"spare"}, []string{"room"})[:n]); !got.equal(want) {
			t.Errorf("answers hang on spare room: %v, want %v", got, want)
		}
	}
	want := ask(sample())
	got := ask(paths[:4])
	for _, p := range paths {
		clear(p)
	}
	clear(paths)
	if !got.equal(want) {
		t.Errorf("answers have changed with what was handed in: %v, want %v", got, want)
	}
}

// P5.10, P0.3, P0.5: an answer shares no memory with an argument or with another answer, its spare room neither.
func TestAnswers(t *testing.T) {
	paths := sample()
	first, second := ask(paths), ask(paths)
	first.spoil()
	if want := ask(sample()); !second.equal(want) || !ask(paths).equal(want) {
		t.Error("an answer was written into, and another one has changed")
	}
	if !slices.EqualFunc(paths, sample(), slices.Equal[[]string]) {
		t.Errorf("an answer was written into, and the paths have changed: %q", paths)
	}
}

// P0.5: nil and empty are the same; P0.1: lists that share their memory are taken as any others.
func TestNil(t *testing.T) {
	for _, p := range [][]string{nil, {}} {
		if s, e := names.Join(p); s != "" || e != api.ErrNameEmpty || names.Path(p) != e {
			t.Errorf("Join(%#v) = %q, %d", p, s, e)
		}
		if names.Less(p, nil) || names.Less(nil, p) || names.Less(p, []string{}) || !names.Less(p, []string{""}) || names.Less([]string{""}, p) {
			t.Errorf("Less of %#v", p)
		}
		if i, j, e := names.Clash([][]string{{}, p}); i != 0 || j != 1 || e != api.ErrPathTwice {
			t.Errorf("Clash({}, %#v) = %d, %d, %d", p, i, j, e)
		}
	}
	for _, l := range [][][]string{nil, {}} {
		order, e := names.Order(l)
		none(t, "Order", l, order, e, api.OK)
		if i, j, e := names.Clash(l); i != 0 || j != 0 || e != api.OK {
			t.Errorf("Clash(%#v) = %d, %d, %d", l, i, j, e)
		}
	}
	one := []string{"a", "b", "c"}
	if i, j, e := names.Clash([][]string{one[2:], one[1:], one[:1], one[:2]}); i != 2 || j != 3 || e != api.ErrPathFolder {
		t.Errorf("Clash of pieces of one list = %d, %d, %d", i, j, e)
	}
}
