package exchange_test

import (
	"bytes"
	"crypto/sha256"
	"fmt"
	"math"
	"math/rand"
	"slices"
	"testing"

	"torrent/api"
	"torrent/exchange"
)

var own = api.Scale{Block: 64, Width: 32}

// tiny has two texts of one digest at every turn.
var tiny = api.Scale{Block: 64, Width: 1}

var badScales = []api.Scale{{}, {Block: 64}, {Block: 64, Width: 33}, {Block: 64, Width: -1}, {Block: 32, Width: 32}, {Block: 96, Width: 32}, {Block: 63, Width: 1}, {Block: 32768, Width: 32}, {Block: -64, Width: 32}, {Block: 0, Width: 32}, {Block: math.MaxInt, Width: 32}, {Block: math.MinInt, Width: math.MinInt}}

// some is a text of n bytes without two like parts.
func some(n int) []byte {
	b := make([]byte, n)
	rand.New(rand.NewSource(int64(n))).Read(b)
	return b
}

// sum is the digest at a scale, by the library of Go.
func sum(sc api.Scale, b []byte) api.Hash {
	h := api.Hash(sha256.Sum256(b))
	clear(h[sc.Width:])
	return h
}

// twin is another text with the digest of text at a scale, of n bytes.
func twin(sc api.Scale, text []byte, n int) []byte {
	for b := some(n); ; b[n-1]++ {
		if b[n-1] == 255 {
			b[n-2]++
		}
		if sum(sc, b) == sum(sc, text) && !bytes.Equal(b, text) {
			return b
		}
	}
}

// cut is the part of a text, by the words of the chapter: the run of Block bytes with that number, the last one shorter.
func cut(block int, text []byte, part int) []byte {
	return text[part*block : min(part*block+block, len(text))]
}

// changed is a copy with one byte changed.
func changed(b []byte, at int) []byte {
	b = slices.Clone(b)
	b[at] ^= 1
	return b
}

func fetch(t *testing.T, sc api.Scale, info api.Hash) *exchange.Fetch {
	t.Helper()
	f, e := exchange.New(sc, info)
	if f == nil || e != api.OK {
		t.Fatalf("P23.3: New(%v) = %v, %d", sc, f, e)
	}
	return f
}

// call is a call of a fetch's method; which numbers count hangs on the method.
type call struct {
	name       string
	peer, part int
	total, now int
	data       []byte
}

func (c call) String() string {
	switch c.name {
	case "Size":
		return fmt.Sprintf("Size(%d, %d)", c.peer, c.total)
	case "Next":
		return fmt.Sprintf("Next(%d, %d)", c.peer, c.now)
	case "Take":
		return fmt.Sprintf("Take(%d, %d, %d, %d bytes)", c.peer, c.part, c.total, len(c.data))
	case "Refuse":
		return fmt.Sprintf("Refuse(%d, %d)", c.peer, c.part)
	case "Expire":
		return fmt.Sprintf("Expire(%d)", c.now)
	case "Drop":
		return fmt.Sprintf("Drop(%d)", c.peer)
	}
	return c.name + "()"
}

func size(peer, total int) call  { return call{name: "Size", peer: peer, total: total} }
func next(peer, now int) call    { return call{name: "Next", peer: peer, now: now} }
func refuse(peer, part int) call { return call{name: "Refuse", peer: peer, part: part} }
func expire(now int) call        { return call{name: "Expire", now: now} }
func drop(peer int) call         { return call{name: "Drop", peer: peer} }
func info() call                 { return call{name: "Info"} }

func take(peer, part, total int, data []byte) call {
	return call{name: "Take", peer: peer, part: part, total: total, data: data}
}

// give is a Take of a text's true part.
func give(peer int, block int, text []byte, part int) call {
	return take(peer, part, len(text), cut(block, text, part))
}

// fetcher is a fetch, or what is held against it.
type fetcher interface {
	Size(peer, size int) api.Errno
	Next(peer, now int) (int, bool, api.Errno)
	Take(peer, part, total int, data []byte) (bool, api.Errno)
	Refuse(peer, part int) api.Errno
	Expire(now int) []int
	Drop(peer int) api.Errno
	Info() ([]byte, bool)
}

// answer is all that a call can answer.
type answer struct {
	part int
	yes  bool
	e    api.Errno
	text string
}

func (a answer) String() string {
	if len(a.text) > 40 {
		a.text = fmt.Sprintf("%q .. (%d bytes)", a.text[:40], len(a.text))
	}
	return fmt.Sprintf("{%d %v %d %q}", a.part, a.yes, a.e, a.text)
}

func do(f fetcher, c call) (a answer) {
	switch c.name {
	case "Size":
		a.e = f.Size(c.peer, c.total)
	case "Next":
		a.part, a.yes, a.e = f.Next(c.peer, c.now)
	case "Take":
		a.yes, a.e = f.Take(c.peer, c.part, c.total, c.data)
	case "Refuse":
		a.e = f.Refuse(c.peer, c.part)
	case "Expire":
		if late := f.Expire(c.now); len(late) > 0 {
			a.text = fmt.Sprint(late)
		}
	case "Drop":
		a.e = f.Drop(c.peer)
	case "Info":
		text, there := f.Info()
		a.text, a.yes = string(text), there
	}
	return a
}

// step is a call, and what it must answer.
type step struct {
	call
	want answer
}

func errno(e api.Errno) answer { return answer{e: e} }
func named(part int) answer    { return answer{part: part, yes: true} }

var (
	fine = answer{}
	none = answer{}
	last = answer{yes: true}
)

// walk makes calls, each of which must answer as it says.
func walk(t *testing.T, promise string, f fetcher, steps ...step) {
	t.Helper()
	for i, s := range steps {
		if got := do(f, s.call); got != s.want {
			t.Errorf("%s: call %d, %v, answers %v, want %v", promise, i, s.call, got, s.want)
		}
	}
}

// whole are the steps by which a peer that said its size gives a whole text, the last answered so.
func whole(peer, now, block int, text []byte, end answer) []step {
	var steps []step
	n := (len(text) + block - 1) / block
	for i := range n {
		s := step{give(peer, block, text, i), fine}
		if i == n-1 {
			s.want = end
		}
		steps = append(steps, step{next(peer, now), named(i)}, s)
	}
	return steps
}
