package message_test

import (
	"bytes"
	"encoding/binary"
	"math"
	"math/rand"
	"slices"
	"strings"
	"testing"

	"torrent/api"
)

// made are the fields of each kind, by their names, in the order of its body.
var made = map[int]string{
	-1: "", 0: "", 1: "", 2: "", 3: "", 4: "Index", 5: "Data", 6: "Index Begin Length", 7: "Index Begin Data", 8: "Index Begin Length",
	21: "Root Base Index Length Proofs", 22: "Root Base Index Length Proofs Hashes", 23: "Root Base Index Length Proofs", 1000: "Index Data",
}

// order are the kinds, from the lowest on.
var order = []int{-1, 0, 1, 2, 3, 4, 5, 6, 7, 8, 21, 22, 23, 1000}

var numbers = []string{"Index", "Begin", "Length", "Base", "Proofs"}

// numberOf is where a message's number of that name stands.
func numberOf(m *api.Msg, name string) *int {
	return map[string]*int{"Index": &m.Index, "Begin": &m.Begin, "Length": &m.Length, "Base": &m.Base, "Proofs": &m.Proofs}[name]
}

// bounds are the least and the highest that a number of a kind may be.
func bounds(kind int, name string) (int, int) {
	switch {
	case kind == 1000:
		return 64, 255
	case (kind == 6 || kind == 8) && name == "Length":
		return 1, 16384
	}
	return 0, 4294967295
}

// sizes are the fewest and the most elements that Data, or Hashes, of a kind has.
func sizes(kind int) (int, int) {
	switch kind {
	case 5:
		return 0, 8192
	case 7:
		return 1, 16384
	case 22:
		return 0, 560
	case 1000:
		return 0, 32767
	}
	return 0, 0
}

// bare tells whether a message's field of that name is 0, all zero, or empty.
func bare(m api.Msg, name string) bool {
	switch name {
	case "Root":
		return bytes.Equal(m.Root[:], make([]byte, 32))
	case "Data":
		return len(m.Data) == 0
	case "Hashes":
		return len(m.Hashes) == 0
	}
	return *numberOf(&m, name) == 0
}

// judged is what Valid answers, gone through by the fields' names.
func judged(m api.Msg) api.Errno {
	fields, known := made[m.Kind]
	if !known {
		return api.ErrMsgKind
	}
	for _, name := range append([]string{"Root", "Data", "Hashes"}, numbers...) {
		if !strings.Contains(fields, name) && !bare(m, name) {
			return api.ErrMsgForeign
		}
	}
	for _, name := range numbers {
		least, most := bounds(m.Kind, name)
		if n := *numberOf(&m, name); strings.Contains(fields, name) && (n < least || n > most) {
			return api.ErrMsgField
		}
	}
	fewest, most := sizes(m.Kind)
	if n := len(m.Data) + len(m.Hashes); n < fewest || n > most {
		return api.ErrMsgSize
	}
	return api.OK
}

// query is the head of a message about hashes, as Go's own library reads and writes it.
type query struct {
	Root                        api.Hash
	Base, Index, Length, Proofs uint32
}

// written is the body of a message that is valid.
func written(m api.Msg) []byte {
	var b bytes.Buffer
	put := func(parts ...any) {
		for _, p := range parts {
			if err := binary.Write(&b, binary.BigEndian, p); err != nil {
				panic(err)
			}
		}
	}
	switch m.Kind {
	case -1:
	case 1000:
		put(uint8(m.Index), m.Data)
	default:
		put(uint8(m.Kind))
	}
	switch m.Kind {
	case 4:
		put(uint32(m.Index))
	case 5:
		put(m.Data)
	case 6, 8:
		put(uint32(m.Index), uint32(m.Begin), uint32(m.Length))
	case 7:
		put(uint32(m.Index), uint32(m.Begin), m.Data)
	case 21, 22, 23:
		put(query{m.Root, uint32(m.Base), uint32(m.Index), uint32(m.Length), uint32(m.Proofs)}, m.Hashes)
	}
	return b.Bytes()
}

// allowed tells whether the table has that length for a first byte.
func allowed(first byte, n int) bool {
	switch first {
	case 0, 1, 2, 3:
		return n == 1
	case 4:
		return n == 5
	case 5:
		return n >= 1 && n <= 8193
	case 6, 8:
		return n == 13
	case 7:
		return n >= 10 && n <= 16393
	case 21, 23:
		return n == 49
	case 22:
		return n >= 49 && n <= 17969 && n%32 == 17
	}
	return n >= 1 && n <= 32768
}

// read is what Decode answers.
func read(b []byte) (api.Msg, api.Errno) {
	if len(b) > 32768 {
		return api.Msg{}, api.ErrMsgSize
	}
	if len(b) == 0 {
		return api.Msg{Kind: -1}, api.OK
	}
	first, rest := b[0], b[1:]
	if _, known := made[int(first)]; first < 64 && !known {
		return api.Msg{}, api.ErrMsgKind
	}
	if !allowed(first, len(b)) {
		return api.Msg{}, api.ErrMsgSize
	}
	number := func(i int) int { return int(binary.BigEndian.Uint32(rest[4*i:])) }
	m := api.Msg{Kind: int(first)}
	switch first {
	case 0, 1, 2, 3:
	case 4:
		m.Index = number(0)
	case 5:
		m.Data = rest
	case 6, 8:
		m.Index, m.Begin, m.Length = number(0), number(1), number(2)
		if m.Length == 0 || m.Length > 16384 {
			return api.Msg{}, api.ErrMsgField
		}
	case 7:
		m.Index, m.Begin, m.Data = number(0), number(1), rest[8:]
	case 21, 22, 23:
		m.Base, m.Index, m.Length, m.Proofs = number(8), number(9), number(10), number(11)
		m.Root = api.Hash(rest)
		for h := range slices.Chunk(rest[48:], 32) {
			m.Hashes = append(m.Hashes, api.Hash(h))
		}
	default:
		m.Kind, m.Index, m.Data = 1000, int(first), rest
	}
	return m, api.OK
}

// alike tells whether two messages are the same, field by field.
func alike(a, b api.Msg) bool {
	for _, name := range numbers {
		if *numberOf(&a, name) != *numberOf(&b, name) {
			return false
		}
	}
	return a.Kind == b.Kind && bytes.Equal(a.Data, b.Data) && a.Root == b.Root && slices.Equal(a.Hashes, b.Hashes)
}

func allAlike(a, b []api.Msg) bool { return slices.EqualFunc(a, b, alike) }

func content(r *rand.Rand, n int) []byte {
	b := make([]byte, n)
	r.Read(b)
	return b
}

func hashes(r *rand.Rand, n int) []api.Hash {
	l := make([]api.Hash, n)
	for i := range l {
		r.Read(l[i][:])
	}
	return l
}

// somewhere is a number from least to most, often at one of these or at the step of a byte.
func somewhere(r *rand.Rand, least, most int) int {
	switch n := least + r.Intn(most-least+1); r.Intn(5) {
	case 0:
		return least
	case 1:
		return most
	case 2:
		return min(most, least+1<<(8*r.Intn(4)))
	default:
		return n
	}
}

// valid is a message of that kind that can be sent.
func valid(r *rand.Rand, kind int) api.Msg {
	m := api.Msg{Kind: kind}
	for name := range strings.FieldsSeq(made[kind]) {
		fewest, most := sizes(kind)
		n := min(most, fewest+r.Intn(50))
		switch name {
		case "Root":
			m.Root = hashes(r, 1)[0]
		case "Data":
			m.Data = content(r, n)
		case "Hashes":
			m.Hashes = hashes(r, n)
		default:
			least, highest := bounds(kind, name)
			*numberOf(&m, name) = somewhere(r, least, highest)
		}
	}
	return m
}

// some are messages of any kinds that can be sent.
func some(r *rand.Rand, n int) []api.Msg {
	var ms []api.Msg
	for range n {
		ms = append(ms, valid(r, order[r.Intn(len(order))]))
	}
	return ms
}

// wide are numbers at the ends of what bytes, the protocol's numbers and ints can be.
var wide = []int{math.MinInt, math.MinInt + 1, -1 << 32, -1<<32 + 64, -1 << 31, -65536, -256, -1, 0, 1, 2, 3, 63, 64, 65, 127, 128, 255, 256, 257, 320, 16383, 16384, 16385, 32768, 65535, 65536, 1 << 24, 1<<31 - 1, 1 << 31, 1<<32 - 2, 1<<32 - 1, 1 << 32, 1<<32 + 1, 1<<32 + 64, 1 << 40, math.MaxInt - 1, math.MaxInt}

// framed is the frame with that body, whatever its length.
func framed(body []byte) []byte {
	return append(binary.BigEndian.AppendUint32(nil, uint32(len(body))), body...)
}

// stream is the frames of these messages, one behind the other.
func stream(ms []api.Msg) []byte {
	var b []byte
	for _, m := range ms {
		b = append(b, framed(written(m))...)
	}
	return b
}

// short is a message without what would be too long to be told.
func short(m api.Msg) any {
	d, h := m.Data, m.Hashes
	m.Data, m.Hashes = d[:min(len(d), 40)], h[:min(len(h), 2)]
	return struct {
		M            api.Msg
		Data, Hashes int
	}{m, len(d), len(h)}
}

// nothing fails the test unless a message is one without any content.
func nothing(t *testing.T, m api.Msg) {
	t.Helper()
	if !alike(m, api.Msg{}) {
		t.Errorf("beside an error: %v", short(m))
	}
}
