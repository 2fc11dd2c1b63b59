package span_test

import (
	"bytes"
	"math/rand"
	"slices"
	"strconv"
	"strings"

	"torrent/api"
)

// sample is the text of the chapter's examples.
const sample = "d1:ad1:bi7e1:cli1e2:xxeee"

// key and at are steps whose other field would lead astray, if it were looked at.
func key(s string) api.Step { return api.Step{At: 0, Key: s} }

func at(n int) api.Step { return api.Step{At: n, Key: "a"} }

func path(steps ...api.Step) []api.Step { return steps }

// node is a value made ahead of its text, so that the answers of the calls are known without reading one.
type node struct {
	kind int
	leaf string // the text of a number or a string
	keys []string
	kids []*node
}

func number(n int) *node { return &node{kind: api.KindInt, leaf: "i" + strconv.Itoa(n) + "e"} }

func word(s string) *node { return &node{kind: api.KindStr, leaf: wordText(s)} }

func list(kids ...*node) *node { return &node{kind: api.KindList, kids: kids} }

func dict(keys []string, kids ...*node) *node {
	return &node{kind: api.KindDict, keys: keys, kids: kids}
}

func wordText(s string) string { return strconv.Itoa(len(s)) + ":" + s }

func (n *node) text() string {
	if n.leaf != "" {
		return n.leaf
	}
	var s strings.Builder
	s.WriteByte(" isld"[n.kind])
	for i, kid := range n.kids {
		if n.kind == api.KindDict {
			s.WriteString(wordText(n.keys[i]))
		}
		s.WriteString(kid.text())
	}
	return s.String() + "e"
}

// spans are those of n and all that lies in it; s tells what is known of n from outside.
func (n *node) spans(out []api.Span, s api.Span) []api.Span {
	place := len(out)
	s.Kind, s.To = n.kind, s.From+len(n.text())
	out = append(out, s)
	from := s.From + 1
	for i, kid := range n.kids {
		k := api.Span{From: from, Depth: s.Depth + 1, Up: place, Nth: i}
		if n.kind == api.KindDict {
			k.Key = n.keys[i]
			k.From += len(wordText(k.Key))
		}
		out = kid.spans(out, k)
		from = k.From + len(kid.text())
	}
	return out
}

func (n *node) allSpans() []api.Span { return n.spans(nil, api.Span{Up: -1}) }

// depth is how many lists and dictionaries lie in one another.
func (n *node) depth() int {
	if n.leaf != "" {
		return 0
	}
	deepest := 0
	for _, kid := range n.kids {
		deepest = max(deepest, kid.depth())
	}
	return 1 + deepest
}

// kid is the place of the kid to which a step leads.
func (n *node) kid(s api.Step) (int, api.Errno) {
	i := s.At
	switch n.kind {
	case api.KindInt, api.KindStr:
		return 0, api.ErrStep
	case api.KindDict:
		i = slices.Index(n.keys, s.Key)
	}
	if i < 0 || i >= len(n.kids) {
		return 0, api.ErrAbsent
	}
	return i, api.OK
}

// find is the node to which a path leads, and its place among all values.
func (n *node) find(path []api.Step) (*node, int, api.Errno) {
	place := 0
	for _, s := range path {
		i, e := n.kid(s)
		if e != api.OK {
			return nil, 0, e
		}
		place++
		for _, k := range n.kids[:i] {
			place += len(k.allSpans())
		}
		n = n.kids[i]
	}
	return n, place, api.OK
}

func (n *node) clone() *node {
	c := &node{kind: n.kind, leaf: n.leaf, keys: slices.Clone(n.keys)}
	for _, k := range n.kids {
		c.kids = append(c.kids, k.clone())
	}
	return c
}

// put is n with v at a path that is not empty.
func (n *node) put(path []api.Step, v *node) (*node, api.Errno) {
	n = n.clone()
	last := path[len(path)-1]
	around, _, e := n.find(path[:len(path)-1])
	if e != api.OK {
		return nil, e
	}
	i, e := around.kid(last)
	switch {
	case e == api.OK:
		around.kids[i] = v
	case e == api.ErrAbsent && around.kind == api.KindList && last.At == len(around.kids):
		around.kids = append(around.kids, v)
	case e == api.ErrAbsent && around.kind == api.KindDict:
		for i < len(around.keys) && around.keys[i] < last.Key {
			i++
		}
		around.keys = slices.Insert(around.keys, i, last.Key)
		around.kids = slices.Insert(around.kids, i, v)
	default:
		return nil, e
	}
	if n.depth() > 32 || len(n.text()) > 1048576 {
		return nil, api.ErrGrown
	}
	return n, api.OK
}

// cut is n without what lies at a path that is not empty.
func (n *node) cut(path []api.Step) (*node, api.Errno) {
	n = n.clone()
	if _, _, e := n.find(path); e != api.OK {
		return nil, e
	}
	around, _, _ := n.find(path[:len(path)-1])
	i, _ := around.kid(path[len(path)-1])
	around.kids = slices.Delete(around.kids, i, i+1)
	if around.kind == api.KindDict {
		around.keys = slices.Delete(around.keys, i, i+1)
	}
	return n, api.OK
}

// paths are those that lead to n and to all that lies in it, ahead being the one that leads to n.
func (n *node) paths(ahead []api.Step) [][]api.Step {
	out := [][]api.Step{ahead}
	for i, kid := range n.kids {
		s := at(i)
		if n.kind == api.KindDict {
			s = key(n.keys[i])
		}
		out = append(out, kid.paths(append(slices.Clip(ahead), s))...)
	}
	return out
}

// tries are the paths of n, and some a step beside them or beyond.
func (n *node) tries() [][]api.Step {
	var out [][]api.Step
	for _, p := range n.paths(nil) {
		out = append(out, p)
		m, _, _ := n.find(p)
		size := len(m.kids)
		for _, s := range path(at(size), at(size+1), at(-1), at(1<<62), key(""), key("b"), key("zzzzzzzzzzz")) {
			beside := append(slices.Clip(p), s)
			out = append(out, beside, append(slices.Clip(beside), key("a")))
		}
	}
	return out
}

func randomWord(r *rand.Rand) string {
	if r.Intn(8) == 0 {
		return strings.Repeat("z", 8+r.Intn(5))
	}
	s := make([]byte, r.Intn(3))
	for i := range s {
		s[i] = "abe:0d\x00\xff"[r.Intn(8)]
	}
	return string(s)
}

// randomNode has at most so many lists and dictionaries in one another.
func randomNode(r *rand.Rand, deep int) *node {
	kind := 1 + r.Intn(4)
	if deep == 0 {
		kind = 1 + r.Intn(2)
	}
	n := &node{kind: kind}
	switch kind {
	case api.KindInt:
		return number([]int{0, -1, 10, -1 << 63, 1<<63 - 1, r.Intn(1000)}[r.Intn(6)])
	case api.KindStr:
		return word(randomWord(r))
	case api.KindDict:
		for range r.Intn(4) {
			n.keys = append(n.keys, randomWord(r))
		}
		slices.SortFunc(n.keys, func(a, b string) int { return bytes.Compare([]byte(a), []byte(b)) })
		n.keys = slices.Compact(n.keys)
		for range n.keys {
			n.kids = append(n.kids, randomNode(r, deep-1))
		}
	case api.KindList:
		for range r.Intn(4) {
			n.kids = append(n.kids, randomNode(r, deep-1))
		}
	}
	return n
}

// nodes are samples of all shapes.
func nodes() []*node {
	out := []*node{
		number(5), word(""), word("e"), list(), dict(nil), list(list(), number(1)), dict([]string{""}, list()),
		dict([]string{"a"}, dict([]string{"b", "c"}, number(7), list(number(1), word("xx")))),
	}
	r := rand.New(rand.NewSource(3))
	for range 60 {
		out = append(out, randomNode(r, 1+r.Intn(4)))
	}
	return out
}

// nested is a text of so many lists in one another, with s inside.
func nested(n int, s string) string {
	return strings.Repeat("l", n) + s + strings.Repeat("e", n)
}

// faulty are texts of each fault.
var faulty = []string{
	"", "x", "e", "i", "i5", "ie", "i-e", "i-0e", "i05e", "i9223372036854775808e", "i-9223372036854775809e", "3:ab", "3", "03:abc", "3x",
	"99999999999999999999:x", "l", "li1e", "li1ex", "lee", "i1ei2e", "d", "de1:a", "d1:a", "d1:ae", "d1:ax", "di1ei2ee", "dlei2ee", "ddei2ee", "dxi2ee",
	"d1:bi1e1:ai2ee", "d1:ai1e1:ai2ee", "d0:i1e0:i1ee", "d2:abi1e1:bi1e1:ai1ee", "d1:ai1e", "d1:ai1e2:b", "ld1:ai1eei1e", "d1:ad1:bi1e1:bi1eee", "d01:ai1ee",
	nested(33, ""), nested(32, "de"), nested(32, "le"), strings.Repeat("l", 33), "d1:a" + nested(32, "") + "e", "l" + nested(31, "") + nested(32, "") + "e",
	strings.Repeat("x", 1048577), "1048569:" + strings.Repeat("x", 1048569), "l1048566:" + strings.Repeat("x", 1048566),
}
