package message_test

import (
	"math/rand"
	"strings"
	"testing"

	"torrent/api"
	"torrent/message"
)

// answers fails the test unless Valid and Encode answer what is judged, and Encode the body, or none.
func answers(t *testing.T, m api.Msg) {
	t.Helper()
	want := judged(m)
	var body []byte
	if want == api.OK {
		body = written(m)
	}
	encodes(t, m, body, want)
}

// spoilt are what a field of that name may be that is not 0, all zero, or empty.
func spoilt(m api.Msg, name string) []api.Msg {
	var all []api.Msg
	with := func(change func(*api.Msg)) {
		c := m
		change(&c)
		all = append(all, c)
	}
	switch name {
	case "Root":
		for i := range 32 {
			with(func(c *api.Msg) { c.Root[i] ^= 128 })
		}
	case "Data":
		with(func(c *api.Msg) { c.Data = []byte{0} })
		with(func(c *api.Msg) { c.Data = make([]byte, 40000) })
	case "Hashes":
		with(func(c *api.Msg) { c.Hashes = make([]api.Hash, 1) })
		with(func(c *api.Msg) { c.Hashes = make([]api.Hash, 600) })
	default:
		for _, n := range wide {
			with(func(c *api.Msg) { *numberOf(c, name) = n })
		}
	}
	return all
}

// P11.1, P11.2: ErrMsgKind for each kind that is none of the table's, whatever else is there.
func TestKinds(t *testing.T) {
	full := api.Msg{Index: -1, Begin: 1, Length: 1 << 40, Data: make([]byte, 40000), Root: api.Hash{1}, Base: -1, Proofs: 1, Hashes: make([]api.Hash, 600)}
	kinds := append([]int(nil), wide...)
	for k := -1100; k <= 1300; k++ {
		kinds = append(kinds, k)
	}
	for _, k := range kinds {
		want := api.ErrMsgForeign
		if _, known := made[k]; !known {
			want = api.ErrMsgKind
			encodes(t, api.Msg{Kind: k}, nil, want)
			encodes(t, api.Msg{Kind: k, Index: 64, Data: []byte("x")}, nil, want)
		}
		full.Kind = k
		encodes(t, full, nil, want)
		answers(t, api.Msg{Kind: k})
	}
}

// P11.1: a field that the kind's row does not name is refused, whatever it holds, and ahead of wrong numbers and sizes.
func TestForeign(t *testing.T) {
	r := rand.New(rand.NewSource(1))
	for _, k := range order {
		for _, name := range append([]string{"Root", "Data", "Hashes"}, numbers...) {
			if strings.Contains(made[k], name) {
				continue
			}
			wrong := api.Msg{Kind: k}
			if strings.Contains(made[k], "Index") {
				wrong.Index = -5
			}
			if strings.Contains(made[k], "Data") {
				wrong.Data = make([]byte, 40000)
			}
			for _, m := range append(spoilt(valid(r, k), name), spoilt(wrong, name)...) {
				want := api.ErrMsgForeign
				if bare(m, name) {
					want = judged(m)
				}
				if e := message.Valid(m); e != want {
					t.Errorf("%s in %v: %d, want %d", name, short(m), e, want)
				}
				answers(t, m)
			}
		}
	}
}

// P11.1: each number of each kind, from the least to the highest that it may be and beyond.
func TestNumbers(t *testing.T) {
	r := rand.New(rand.NewSource(2))
	for _, k := range order {
		for name := range strings.FieldsSeq(made[k]) {
			if name == "Root" || name == "Data" || name == "Hashes" {
				continue
			}
			least, most := bounds(k, name)
			for _, n := range wide {
				m := valid(r, k)
				*numberOf(&m, name) = n
				want := api.ErrMsgField
				if n >= least && n <= most {
					want = api.OK
				}
				if e := message.Valid(m); e != want {
					t.Errorf("%s in %v: %d, want %d", name, short(m), e, want)
				}
				answers(t, m)
				m.Data, m.Hashes = nil, nil
				answers(t, m)
			}
		}
	}
}

// P11.1: Data and Hashes of each kind that has them, at their limits; a wrong number is told ahead of a wrong size.
func TestSizes(t *testing.T) {
	r := rand.New(rand.NewSource(3))
	for _, k := range []int{api.MsgBitfield, api.MsgPiece, api.MsgHashes, api.MsgOther} {
		fewest, most := sizes(k)
		for _, n := range []int{0, 1, 2, 3, 31, 32, 33, 512, 513, 559, 560, 561, 592, 8191, 8192, 8193, 16383, 16384, 16385, 32766, 32767, 32768, 32769, 65536} {
			m := valid(r, k)
			if k == api.MsgHashes {
				m.Hashes = hashes(r, n)
			} else {
				m.Data = content(r, n)
			}
			want := api.ErrMsgSize
			if n >= fewest && n <= most {
				want = api.OK
			}
			if e := message.Valid(m); e != want {
				t.Errorf("%d elements in a message of the kind %d: %d, want %d", n, k, e, want)
			}
			answers(t, m)
			if k != api.MsgBitfield {
				m.Index = -1
				encodes(t, m, nil, api.ErrMsgField)
			}
			m.Begin, m.Length = 1<<32, -1
			answers(t, m)
		}
	}
}

// P11.1: a list that is nil and one that is empty are the same, foreign or not.
func TestEmptyLists(t *testing.T) {
	r := rand.New(rand.NewSource(4))
	for _, k := range order {
		m := valid(r, k)
		if len(m.Data) == 0 {
			m.Data = make([]byte, 0, 5)
		}
		if len(m.Hashes) == 0 {
			m.Hashes = make([]api.Hash, 0, 5)
		}
		answers(t, m)
		m.Data, m.Hashes = []byte{}, []api.Hash{}
		answers(t, m)
		m.Data, m.Hashes = nil, nil
		answers(t, m)
	}
}

// P11.1, P11.2: any mixture of fields, right and wrong.
func TestMixed(t *testing.T) {
	r := rand.New(rand.NewSource(5))
	for range 20000 {
		m := valid(r, order[r.Intn(len(order))])
		for range r.Intn(3) {
			names := append([]string{"Root", "Data", "Hashes"}, numbers...)
			all := spoilt(m, names[r.Intn(len(names))])
			m = all[r.Intn(len(all))]
		}
		answers(t, m)
	}
}
