package names_test

import (
	"cmp"
	"math/rand"
	"slices"
	"strconv"
	"strings"
	"testing"

	"torrent/api"
	"torrent/names"
)

// P5.7: all pairs of lists of up to three strings, good components or not; just one of Less both ways, unless the lists are the same.
func TestLess(t *testing.T) {
	all := lists([]string{"", "a", "a!", "a/", "ab", "b", "\x00", "\xff"}, 3)
	for i, a := range all {
		for j, b := range all {
			less, more := names.Less(a, b), names.Less(b, a)
			if less != (write(a) < write(b)) || less && more || (!less && !more) != (i == j) {
				t.Fatalf("Less(%q, %q) = %v, the other way %v", a, b, less, more)
			}
		}
	}
}

// P5.7: each byte against each, by itself and behind others; long lists that differ at their end alone.
func TestLessBytes(t *testing.T) {
	for x := range 256 {
		for y := range 256 {
			a, b := string([]byte{byte(x)}), string([]byte{byte(y)})
			for _, ahead := range []string{"", "é", strings.Repeat("q", 300)} {
				if names.Less([]string{"k", ahead + a}, []string{"k", ahead + b}) != (x < y) {
					t.Fatalf("bytes %d and %d behind %.10q", x, y, ahead)
				}
			}
		}
	}
	long := times(100000, "a")
	for _, b := range [][]string{long[1:], append(slices.Clone(long), ""), append(long[1:len(long):len(long)], "b"), append(long[1:len(long):len(long)], "A")} {
		if less, more := names.Less(long, b), names.Less(b, long); less != (write(long) < write(b)) || more == less {
			t.Errorf("long lists: %v, the other way %v", less, more)
		}
	}
}

// clashing looks at each pair of paths, as the chapter's words say it.
func clashing(paths [][]string) (int, int, api.Errno) {
	for j := range paths {
		for i := range j {
			a, b := write(paths[i]), write(paths[j])
			if a == b {
				return i, j, api.ErrPathTwice
			}
			if strings.HasPrefix(a, b) || strings.HasPrefix(b, a) {
				return i, j, api.ErrPathFolder
			}
		}
	}
	return 0, 0, api.OK
}

func checkClash(t *testing.T, paths [][]string) {
	t.Helper()
	i, j, e := names.Clash(paths)
	if k, l, want := clashing(paths); i != k || j != l || e != want {
		t.Fatalf("Clash(%.300q) = %d, %d, %d, want %d, %d, %d", paths, i, j, e, k, l, want)
	}
}

// P5.8: all lists of up to four paths out of those of up to two strings, the empty path and empty strings among them.
func TestClash(t *testing.T) {
	all := lists([]string{"", "a", "a/"}, 2)
	all = append(all, []string{"a", "a", "a"}, []string{"a", "", "a"})
	for _, a := range all {
		for _, b := range all {
			checkClash(t, [][]string{a, b})
			for _, c := range all {
				checkClash(t, [][]string{a, b, c})
				for _, d := range all {
					checkClash(t, [][]string{a, b, c, d})
				}
			}
		}
		checkClash(t, [][]string{a})
	}
	checkClash(t, nil)
}

// P5.8: lists of many paths that begin alike, so that clashes come late and the one that comes last has several ahead of it.
func TestClashMixed(t *testing.T) {
	r := rand.New(rand.NewSource(8))
	late := 0
	for range 20000 {
		paths := make([][]string, r.Intn(30))
		for i := range paths {
			paths[i] = append(mixed(r, []string{"a", "b", "c", "", "\xff"}, 4), []string{"a", "b", "c"}[r.Intn(3)])
		}
		checkClash(t, paths)
		if _, j, e := names.Clash(paths); e != api.OK && j > 8 {
			late++
		}
	}
	if late < 1000 {
		t.Errorf("only %d clashes came late", late)
	}
}

// P5.8: any number of paths, of any length.
func TestClashMany(t *testing.T) {
	var paths [][]string
	for i := range 200000 {
		paths = append(paths, []string{"folder", strconv.Itoa(i % 1000), strconv.Itoa(i)})
	}
	for _, c := range []struct {
		p []string
		i int
		e api.Errno
	}{
		{[]string{"folder", "7", "123007"}, 123007, api.ErrPathTwice}, {[]string{"folder", "999"}, 999, api.ErrPathFolder}, {[]string{"folder", "1", "100001", "x"}, 100001, api.ErrPathFolder},
		{[]string{"folder"}, 0, api.ErrPathFolder}, {nil, 0, api.ErrPathFolder}, {[]string{"folder", "7", "123008"}, -1, api.OK},
	} {
		i, j, e := names.Clash(append(paths[:len(paths):len(paths)], c.p))
		if e != c.e || e == api.OK && (i != 0 || j != 0) || e != api.OK && (i != c.i || j != len(paths)) {
			t.Errorf("Clash with %q at the end = %d, %d, %d, want %d, %d", c.p, i, j, e, c.i, c.e)
		}
	}
	deep := times(1<<17, "d")
	if i, j, e := names.Clash([][]string{{"a"}, deep, {"b"}, deep[1:]}); i != 1 || j != 3 || e != api.ErrPathFolder {
		t.Errorf("Clash of deep paths = %d, %d, %d", i, j, e)
	}
	long := []string{strings.Repeat("l", 1<<22)}
	if i, j, e := names.Clash([][]string{{"a"}, long, {"b"}, {strings.Repeat("l", 1<<22)}}); i != 1 || j != 3 || e != api.ErrPathTwice {
		t.Errorf("Clash of long names = %d, %d, %d", i, j, e)
	}
}

// checkOrder holds Order against its errors in their order, and against the places sorted by what write makes of the paths.
func checkOrder(t *testing.T, paths [][]string) {
	t.Helper()
	order, e := names.Order(paths)
	want := api.OK
	if len(paths) > 4096 {
		want = api.ErrPathMany
	}
	for i := 0; i < len(paths) && want == api.OK; i++ {
		want = pathed(paths[i])
	}
	if want == api.OK {
		_, _, want = clashing(paths)
	}
	if want != api.OK {
		none(t, "Order", paths, order, e, want)
		return
	}
	var places []int
	for i := range paths {
		places = append(places, i)
	}
	slices.SortFunc(places, func(i, j int) int { return cmp.Compare(write(paths[i]), write(paths[j])) })
	if e != api.OK || !slices.Equal(order, places) {
		t.Fatalf("Order(%.300q) = %v, %d, want %v", paths, order, e, places)
	}
}

// P5.9: all lists of up to four paths, good and wrong ones, with and without clashes.
func TestOrder(t *testing.T) {
	all := append(lists([]string{"a", "a!", "b"}, 2), []string{"a", "b", "c"}, []string{""}, []string{"a", ".."}, times(17, "a"))
	checkOrder(t, nil)
	for _, a := range all {
		checkOrder(t, [][]string{a})
		for _, b := range all {
			checkOrder(t, [][]string{a, b})
			for _, c := range all {
				checkOrder(t, [][]string{a, b, c})
				for _, d := range all {
					checkOrder(t, [][]string{a, b, c, d})
				}
			}
		}
	}
}

// P5.9: the number of paths at the limit, one below and beyond it; ahead of any other error the number, then the first wrong path, then a clash.
func TestOrderMany(t *testing.T) {
	r := rand.New(rand.NewSource(9))
	for _, n := range []int{300, api.MaxFiles - 1, api.MaxFiles, api.MaxFiles + 1} {
		paths := make([][]string, n)
		for i := range paths {
			paths[i] = append(mixed(r, []string{"a", "a!", "z"}, 3), "n"+strconv.Itoa(r.Intn(10))+"x"+strconv.Itoa(i))
		}
		checkSorted(t, paths, api.OK)
		last := slices.Clone(paths)
		last[n-1] = last[0]
		checkSorted(t, last, api.ErrPathTwice)
		last[n-1] = append(slices.Clone(last[0]), "below")
		checkSorted(t, last, api.ErrPathFolder)
		last[n-2] = []string{"a", "\xff"}
		checkSorted(t, last, api.ErrNameUtf8)
		last[n-1] = nil
		checkSorted(t, last, api.ErrNameUtf8)
		last[1] = times(17, "")
		checkSorted(t, last, api.ErrPathDeep)
	}
	checkSorted(t, make([][]string, api.MaxFiles), api.ErrNameEmpty)
	checkSorted(t, make([][]string, 1<<20), api.ErrPathMany)
}

// checkSorted holds Order of many paths against that error, but for too many of them; without one, each place is there once and the paths rise.
func checkSorted(t *testing.T, paths [][]string, want api.Errno) {
	t.Helper()
	order, e := names.Order(paths)
	if len(paths) > api.MaxFiles {
		want = api.ErrPathMany
	}
	if want != api.OK {
		none(t, "Order", len(paths), order, e, want)
		return
	}
	if e != api.OK || len(order) != len(paths) {
		t.Fatalf("Order of %d paths: %d places, %d", len(paths), len(order), e)
	}
	for k := 1; k < len(order); k++ {
		if a, b := paths[order[k-1]], paths[order[k]]; write(a) >= write(b) {
			t.Fatalf("%q comes ahead of %q", a, b)
		}
	}
}

// P5.7 to P5.9: the examples that the chapter writes out.
func TestOrderExamples(t *testing.T) {
	if !names.Less([]string{"a", "z"}, []string{"a!"}) || !names.Less([]string{"a"}, []string{"a", "b"}) || !names.Less([]string{}, []string{"a"}) || names.Less([]string{"a"}, []string{"a"}) {
		t.Error("Less of the examples")
	}
	for _, c := range []struct {
		paths [][]string
		i, j  int
		e     api.Errno
	}{
		{[][]string{{"a"}, {"b"}, {"a", "x"}, {"b"}}, 0, 2, api.ErrPathFolder}, {[][]string{{"a", "x"}, {"b"}, {"b"}, {"a"}}, 1, 2, api.ErrPathTwice},
		{[][]string{{"a", "x"}, {"a", "y"}, {"a"}}, 0, 2, api.ErrPathFolder}, {[][]string{{"a"}, {"a", "x"}, {"a"}}, 0, 1, api.ErrPathFolder},
	} {
		if i, j, e := names.Clash(c.paths); i != c.i || j != c.j || e != c.e {
			t.Errorf("Clash(%q) = %d, %d, %d, want %d, %d, %d", c.paths, i, j, e, c.i, c.j, c.e)
		}
	}
	if order, e := names.Order([][]string{{"b"}, {"a", "z"}, {"a!"}, {"a", "c", "d"}}); e != api.OK || !slices.Equal(order, []int{3, 1, 2, 0}) {
		t.Errorf("Order = %v, %d", order, e)
	}
	order, e := names.Order([][]string{{"a", ""}, {"a"}, {"a"}})
	none(t, "Order", nil, order, e, api.ErrNameEmpty)
	order, e = names.Order([][]string{{"a"}, {"a"}, {"a", "b"}})
	none(t, "Order", nil, order, e, api.ErrPathTwice)
}
