package create

import (
	"slices"
	"sort"
)

// turned answers what f makes of the things of a row, gone through from the first on.
func turned[From, To any](row []From, f func(From) To) []To {
	out := make([]To, 0, len(row))
	for _, x := range row {
		out = append(out, f(x))
	}
	return out
}

// spread answers the rows that f makes of the things of a row, one behind the other.
func spread[From, To any](row []From, f func(From) []To) []To {
	return slices.Concat(turned(row, f)...)
}

// sought answers what a row has at the key. The row rises: ahead of what is at the key (order is 0) stands what is below it, behind it what is above it.
func sought[Item, Key any](row []Item, key Key, order func(Item, Key) int) []Item {
	from := sort.Search(len(row), func(i int) bool { return order(row[i], key) >= 0 })
	to := sort.Search(len(row), func(i int) bool { return order(row[i], key) > 0 })
	return row[from:to]
}
