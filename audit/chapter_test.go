package audit_test

import (
	"bytes"
	"slices"
	"testing"

	"torrent/api"
	"torrent/audit"
)

// wantStates looks at what Check finds of the four pieces of three.
func wantStates(t *testing.T, m api.Meta, files []api.Source, states ...int) {
	t.Helper()
	var want []api.Finding
	for i, s := range states {
		want = append(want, api.Finding{File: []int{0, 0, 0, 2}[i], Piece: i, State: s})
	}
	if l, e := audit.Check(own, m, files); !slices.Equal(l, want) || e != api.OK {
		t.Errorf("P25.1: Check = %v, %d, want %v", l, e, want)
	}
}

// Example 1.
func TestExampleOfCheck(t *testing.T) {
	m := three(t)
	wantStates(t, m, []api.Source{file(a, "a"), file(nil, "b"), file(c, "c")}, 1, 1, 1, 1)
	wantStates(t, m, []api.Source{file(a[:299], "a")}, 1, 1, 3, 3)
	wantStates(t, m, []api.Source{file(append(changed(a, 130), 0), "a")}, 1, 2, 1, 3)
	wantStates(t, m, nil, 3, 3, 3, 3)
	wantStates(t, bare(m), []api.Source{file(a, "a"), file(nil, "b"), file(c, "c")}, 4, 4, 4, 1)
}

// Example 2.
func TestExampleOfExtra(t *testing.T) {
	m := three(t)
	if l, e := audit.Extra(m, []api.Source{file(nil, "b"), file(nil, "x"), file(nil, "c", "d")}); !slices.Equal(l, []int{1, 2}) || e != api.OK {
		t.Errorf("P25.2: Extra = %v, %d", l, e)
	}
	wantRefusals(t, m, []api.Source{file(a, "b"), file(c, "b")}, api.ErrPool, api.ErrPool)
}

// Example 3.
func TestExampleOfMatch(t *testing.T) {
	m := three(t)
	if l, e := audit.Match(own, m, firstPool()); !slices.Equal(l, []int{2, 1, 0}) || e != api.OK {
		t.Errorf("P25.3: Match = %v, %d", l, e)
	}
	if l, e := audit.Match(own, m, []api.Source{file(changed(a, 130), "a")}); !slices.Equal(l, []int{-1, -1, -1}) || e != api.OK {
		t.Errorf("P25.3: Match of a changed file = %v, %d", l, e)
	}
}

func firstPool() []api.Source {
	return []api.Source{file(c, "z"), file(nil, "q"), file(a, "a")}
}

// Examples 4 to 8.
func TestExamplesOfImport(t *testing.T) {
	m := three(t)
	all := []api.Source{file(a, "a"), file(nil, "b"), file(c, "c")}
	wrong := file(changed(a, 130), "a")
	for _, x := range []struct {
		what  string
		m     api.Meta
		pools [][]api.Source
		came  []int
		have  byte
		out   []api.Source
	}{
		{"4", m, [][]api.Source{firstPool(), firstPool()}, []int{4, 0}, 0xf0, all},
		{"5", m, [][]api.Source{{wrong}}, []int{2}, 0xa0, all[1:2]},
		{"6", m, [][]api.Source{{wrong, file(a, "copy")}}, []int{3}, 0xe0, all[:2]},
		{"7", m, nil, nil, 0, all[1:2]},
		{"8", bare(m), [][]api.Source{all}, []int{1}, 0x10, all[1:]},
	} {
		s := empty(t, own, x.m)
		for i, pool := range x.pools {
			if n, e := audit.Import(own, x.m, s, pool); n != x.came[i] || e != api.OK {
				t.Errorf("P25.4: example %s: Import = %d, %d, want %d", x.what, n, e, x.came[i])
			}
		}
		if !bytes.Equal(s.Have(), []byte{x.have}) {
			t.Errorf("P25.4: example %s: Have = %v", x.what, s.Have())
		}
		if l, e := audit.Export(x.m, s); !same(l, x.out) || e != api.OK {
			t.Errorf("P25.5: example %s: Export = %v, %d", x.what, l, e)
		}
	}
	if n, e := audit.Import(own, m, nil, all); n != 0 || e != api.ErrNil {
		t.Errorf("P25.4: example 7: Import into no store = %d, %d", n, e)
	}
}
