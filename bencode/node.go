package bencode

import (
	"strconv"

	"torrent/api"
)

// node is a value as the package holds it inside: one type for each kind, so that no field is foreign.
type node interface {
	// text adds the value's text to out.
	text(out []byte) []byte
}

type (
	number int
	word   string
	list   []node
	dict   []entry
)

// entry is a pair of a dictionary.
type entry struct {
	key word
	val node
}

func (n number) text(out []byte) []byte {
	return append(strconv.AppendInt(append(out, 'i'), int64(n), 10), 'e')
}

func (w word) text(out []byte) []byte {
	return append(append(strconv.AppendInt(out, int64(len(w)), 10), ':'), w...)
}

func (l list) text(out []byte) []byte {
	out = append(out, 'l')
	for _, x := range l {
		out = x.text(out)
	}
	return append(out, 'e')
}

func (d dict) text(out []byte) []byte {
	out = append(out, 'd')
	for _, p := range d {
		out = p.val.text(p.key.text(out))
	}
	return append(out, 'e')
}

// size is how many bytes the text of a valid value has. Beyond MaxText it stops counting: lists that share their elements may tell of more than there is room for.
func size(v api.Value) int {
	switch v.Kind {
	case api.KindInt:
		return len("ie") + len(strconv.Itoa(v.Int))
	case api.KindStr:
		return wordSize(v.Str)
	}
	n := len("le")
	for i := 0; i < len(v.List) && n <= api.MaxText; i++ {
		n += size(v.List[i])
	}
	for i := 0; i < len(v.Dict) && n <= api.MaxText; i++ {
		n += wordSize(v.Dict[i].Key) + size(v.Dict[i].Val)
	}
	return n
}

func wordSize(s string) int { return len(strconv.Itoa(len(s))) + len(":") + len(s) }

// nodeOf turns a valid value of the face into a node.
func nodeOf(v api.Value) node {
	switch v.Kind {
	case api.KindInt:
		return number(v.Int)
	case api.KindStr:
		return word(v.Str)
	case api.KindList:
		return listOf(v.List)
	}
	return dictOf(v.Dict)
}

func listOf(values []api.Value) list {
	l := make(list, len(values))
	for i, x := range values {
		l[i] = nodeOf(x)
	}
	return l
}

func dictOf(pairs []api.Pair) dict {
	d := make(dict, len(pairs))
	for i, p := range pairs {
		d[i] = entry{key: word(p.Key), val: nodeOf(p.Val)}
	}
	return d
}

// plain turns a node into a value of the face, all of it new memory.
func plain(n node) api.Value {
	v := api.Value{}
	switch x := n.(type) {
	case number:
		v.Kind, v.Int = api.KindInt, int(x)
	case word:
		v.Kind, v.Str = api.KindStr, string(x)
	case list:
		v.Kind, v.List = api.KindList, make([]api.Value, len(x))
		for i, y := range x {
			v.List[i] = plain(y)
		}
	case dict:
		v.Kind, v.Dict = api.KindDict, make([]api.Pair, len(x))
		for i, p := range x {
			v.Dict[i] = api.Pair{Key: string(p.key), Val: plain(p.val)}
		}
	}
	return v
}
