package disk_test

import (
	"bytes"
	"math/rand"
	"slices"
	"testing"

	"torrent/api"
	"torrent/disk"
)

// w is a sector full of one byte.
func w(c byte) []byte { return bytes.Repeat([]byte{c}, 64) }

// torn is a sector that begins with n bytes c and goes on with bytes b.
func torn(n int, c, b byte) []byte {
	return append(bytes.Repeat([]byte{c}, n), bytes.Repeat([]byte{b}, 64-n)...)
}

func content(r *rand.Rand, n int) []byte {
	b := make([]byte, n)
	r.Read(b)
	return b
}

// keeping is what a number's bits say of n writes.
func keeping(n, bits int) []bool {
	keep := make([]bool, n)
	for i := range keep {
		keep[i] = bits>>i&1 == 1
	}
	return keep
}

func flips(r *rand.Rand, n int) []bool { return keeping(n, r.Intn(1<<min(n, 30))) }

// noted is an unsynced write as the document tells of it.
type noted struct {
	at   int
	data []byte
	dead bool
}

// plain is a disk as the document tells of it: what lasts, and a list of writes. Its fuse is the number of calls that are still taken; below 0 there is none.
type plain struct {
	lasts  [][]byte
	writes []noted
	fuse   int
}

func (p *plain) read(at int) []byte {
	for _, x := range slices.Backward(p.writes) {
		if x.at == at {
			return x.data
		}
	}
	return p.lasts[at]
}

func (p *plain) image() []byte {
	var b []byte
	for at := range p.lasts {
		b = append(b, p.read(at)...)
	}
	return b
}

func (p *plain) pending() []int {
	var l []int
	for _, x := range p.writes {
		l = append(l, x.at)
	}
	return l
}

func (p *plain) taken() bool {
	if p.fuse > 0 {
		p.fuse--
		return true
	}
	return p.fuse != 0
}

func (p *plain) write(at int, data []byte) api.Errno {
	if at < 0 || at > len(p.lasts)-1 {
		return api.ErrSector
	}
	if len(data) != 64 {
		return api.ErrSize
	}
	p.writes = append(p.writes, noted{at, bytes.Clone(data), !p.taken()})
	return api.OK
}

func (p *plain) sync() api.Errno {
	if p.taken() {
		for _, x := range p.writes {
			p.lasts[x.at] = x.data
		}
		p.writes = nil
	}
	return api.OK
}

func (p *plain) lay(n int) api.Errno {
	if n < 0 {
		return api.ErrArg
	}
	if p.fuse != 0 {
		p.fuse = n
	}
	return api.OK
}

func (p *plain) crash(keep []bool, torn, cut int) api.Errno {
	n := len(p.writes)
	switch {
	case len(keep) != n:
		return api.ErrSize
	case torn < -1 || torn >= n:
		return api.ErrArg
	case torn >= 0 && (cut < 0 || cut > 64):
		return api.ErrArg
	}
	for i, x := range p.writes {
		switch {
		case x.dead:
		case i == torn:
			p.lasts[x.at] = slices.Concat(x.data[:cut], p.lasts[x.at][cut:])
		case keep[i]:
			p.lasts[x.at] = x.data
		}
	}
	p.writes, p.fuse = nil, -1
	return api.OK
}

func (p *plain) twin() *plain {
	return &plain{slices.Clone(p.lasts), slices.Clone(p.writes), p.fuse}
}

// watch is a disk beside the plain one that it must be like.
type watch struct {
	t *testing.T
	d *disk.Disk
	p *plain
}

func begin(t *testing.T, sectors int) *watch {
	t.Helper()
	d, e := disk.New(sectors)
	if d == nil || e != api.OK {
		t.Fatalf("New(%d) = %v, %d", sectors, d, e)
	}
	x := &watch{t, d, &plain{fuse: -1}}
	for range sectors {
		x.p.lasts = append(x.p.lasts, w(0))
	}
	x.look()
	return x
}

// begun is the disk behind the chapter's example 4.
func begun(t *testing.T) *watch {
	t.Helper()
	x := begin(t, 2)
	x.write(1, w('a'))
	x.write(0, w('b'))
	x.write(1, w('c'))
	return x
}

// look holds all that can be seen of the disk against the plain one.
func (x *watch) look() {
	x.t.Helper()
	if n := x.d.Size(); n != len(x.p.lasts) {
		x.t.Fatalf("Size = %d, want %d", n, len(x.p.lasts))
	}
	if l := x.d.Pending(); !slices.Equal(l, x.p.pending()) {
		x.t.Fatalf("Pending = %v, want %v", l, x.p.pending())
	}
	if b := x.d.Durable(); !bytes.Equal(b, slices.Concat(x.p.lasts...)) {
		x.t.Fatalf("Durable = %v, want %v", b, x.p.lasts)
	}
	if b := x.d.Image(); !bytes.Equal(b, x.p.image()) {
		x.t.Fatalf("Image = %v, want %v", b, x.p.image())
	}
	for at := range x.p.lasts {
		if b, e := x.d.Read(at); e != api.OK || !bytes.Equal(b, x.p.read(at)) {
			x.t.Fatalf("Read(%d) = %v, %d, want %v", at, b, e, x.p.read(at))
		}
	}
}

// same holds an answer against the plain disk's, and then all that can be seen.
func (x *watch) same(call string, e, want api.Errno) api.Errno {
	x.t.Helper()
	if e != want {
		x.t.Fatalf("%s = %d, want %d", call, e, want)
	}
	x.look()
	return e
}

func (x *watch) write(at int, data []byte) api.Errno {
	x.t.Helper()
	return x.same("Write", x.d.Write(at, data), x.p.write(at, data))
}

func (x *watch) sync() api.Errno {
	x.t.Helper()
	return x.same("Sync", x.d.Sync(), x.p.sync())
}

func (x *watch) fuse(n int) api.Errno {
	x.t.Helper()
	return x.same("Fuse", x.d.Fuse(n), x.p.lay(n))
}

func (x *watch) crash(keep []bool, torn, cut int) api.Errno {
	x.t.Helper()
	return x.same("Crash", x.d.Crash(keep, torn, cut), x.p.crash(keep, torn, cut))
}

func (x *watch) twin() *watch {
	x.t.Helper()
	c := &watch{x.t, x.d.Copy(), x.p.twin()}
	if c.d == nil || c.d == x.d {
		x.t.Fatal("Copy is no second disk")
	}
	c.look()
	return c
}

// readsAs fails the test unless the sectors read so, one behind the other.
func (x *watch) readsAs(sectors ...[]byte) {
	x.t.Helper()
	if b := x.d.Image(); !bytes.Equal(b, slices.Concat(sectors...)) {
		x.t.Fatalf("it reads as %v, want %v", b, sectors)
	}
}
