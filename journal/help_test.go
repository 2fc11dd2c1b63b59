package journal_test

import (
	"bytes"
	"crypto/sha256"
	"encoding/binary"
	"math/rand"
	"slices"
	"testing"

	"torrent/api"
	"torrent/disk"
	"torrent/journal"
)

// text is the sector of a record, by the chapter's table.
func text(seq, low, kind int, data []byte) []byte {
	b := binary.BigEndian.AppendUint32([]byte{74}, uint32(seq))
	b = binary.BigEndian.AppendUint32(b, uint32(low))
	b = append(append(b, byte(kind), byte(len(data))), data...)
	b = append(b, make([]byte, 52-len(b))...)
	return sealed(b, seq)
}

// sealed lays the digest and the second number behind the first 52 bytes of a sector.
func sealed(b []byte, seq int) []byte {
	sum := sha256.Sum256(b)
	return binary.BigEndian.AppendUint32(slices.Concat(b, sum[:8]), uint32(seq))
}

// lain is a record that a sector holds, with its low.
type lain struct {
	api.Record
	low int
}

// read is what the chapter says that a sector holds.
func read(b []byte) (lain, bool) {
	seq, low := int(binary.BigEndian.Uint32(b[1:])), int(binary.BigEndian.Uint32(b[5:]))
	kind, n := int(b[9]), int(b[10])
	if seq == 0 || low == 0 || low > seq || n > 36 || kind == 0 && n != 0 {
		return lain{}, false
	}
	data := bytes.Clone(b[11 : 11+n])
	return lain{api.Record{Seq: seq, Kind: kind, Data: data}, low}, bytes.Equal(b, text(seq, low, kind, data))
}

// plain is a journal as the document tells of it, on a disk of its own.
type plain struct {
	d               *disk.Disk
	first, count    int
	low, last, held int
	live            []api.Record
	clean           bool
}

func (p *plain) slot(seq int) int { return p.first + (seq-1)%p.count }

// find is the plain journal that a ring holds.
func find(d *disk.Disk, first, count int) *plain {
	p := &plain{d: d, first: first, count: count, low: 1}
	held := map[int]lain{}
	for at := first; at < first+count; at++ {
		b, _ := d.Read(at)
		if r, ok := read(b); ok && p.slot(r.Seq) == at {
			held[r.Seq] = r
		}
	}
	for seq, r := range held {
		whole := true
		for n := seq; n >= r.low && whole; n-- {
			_, whole = held[n]
		}
		if whole && seq > p.last {
			p.low, p.last = r.low, seq
		}
	}
	for n := p.low; n <= p.last; n++ {
		if held[n].Kind != 0 {
			p.live = append(p.live, held[n].Record)
		}
	}
	p.held = p.low
	p.clean = len(p.stale()) == 0
	return p
}

// others are the ring's sectors that are the slot of none of the numbers from one to another.
func (p *plain) others(from, to int) []int {
	slots := map[int]int{}
	for n := from; n <= to; n++ {
		slots[p.slot(n)] = n
	}
	var l []int
	for at := p.first; at < p.first+p.count; at++ {
		if slots[at] == 0 {
			l = append(l, at)
		}
	}
	return l
}

func (p *plain) stale() []int {
	return slices.DeleteFunc(p.others(p.low, p.last), func(at int) bool {
		b, _ := p.d.Read(at)
		return bytes.Equal(b, make([]byte, 64))
	})
}

func (p *plain) free() int { return len(p.others(p.held, p.last)) }

func (p *plain) room() int {
	if !p.clean {
		return 0
	}
	return max(0, min(p.free()-1, 4294967295-p.last))
}

func (p *plain) sync() api.Errno {
	p.held = p.low
	return p.d.Sync()
}

func (p *plain) scrub() api.Errno {
	if p.clean {
		return api.OK
	}
	for _, at := range p.stale() {
		p.d.Write(at, make([]byte, 64))
	}
	p.clean = true
	return p.sync()
}

func (p *plain) append(kind int, data []byte) (int, api.Errno) {
	switch {
	case !p.clean:
		return 0, api.ErrStale
	case kind < 1 || kind > 255 || len(data) > 36:
		return 0, api.ErrRecord
	case p.last == 4294967295:
		return 0, api.ErrWorn
	case p.room() == 0:
		return 0, api.ErrFull
	}
	p.last++
	p.live = append(p.live, api.Record{Seq: p.last, Kind: kind, Data: bytes.Clone(data)})
	return p.last, p.d.Write(p.slot(p.last), text(p.last, p.low, kind, data))
}

func (p *plain) trim(to int) api.Errno {
	switch {
	case !p.clean:
		return api.ErrStale
	case to <= p.low || to > p.last+1:
		return api.ErrTrim
	case p.last == 4294967295:
		return api.ErrWorn
	case p.free() == 0:
		return api.ErrFull
	}
	p.last++
	p.low = to
	p.live = slices.DeleteFunc(p.live, func(r api.Record) bool { return r.Seq < to })
	return p.d.Write(p.slot(p.last), text(p.last, to, 0, nil))
}

// state is what P13.10 speaks of.
type state struct {
	low, last int
	live      []api.Record
}

func (s state) same(o state) bool {
	return s.low == o.low && s.last == o.last && slices.EqualFunc(s.live, o.live, func(a, b api.Record) bool {
		return a.Seq == b.Seq && a.Kind == b.Kind && bytes.Equal(a.Data, b.Data)
	})
}

func stateOf(j *journal.Journal) state { return state{j.Low(), j.Last(), j.Live()} }

// opened is the journal of a ring that may be.
func opened(t *testing.T, d *disk.Disk, first, count int) *journal.Journal {
	t.Helper()
	j, e := journal.Open(d, first, count)
	if j == nil || e != api.OK {
		t.Fatalf("Open(%d, %d) = %v, %d", first, count, j, e)
	}
	return j
}

// loaded is a disk on which these sectors last.
func loaded(t *testing.T, sectors ...[]byte) *disk.Disk {
	t.Helper()
	d, e := disk.Load(slices.Concat(sectors...))
	if e != api.OK {
		t.Fatalf("Load = %d", e)
	}
	return d
}

// made is a disk of so many zero sectors.
func made(t *testing.T, size int) *disk.Disk {
	t.Helper()
	d, e := disk.New(size)
	if e != api.OK {
		t.Fatalf("New(%d) = %d", size, e)
	}
	return d
}

// watch is a journal beside the plain one that it must be like.
type watch struct {
	t *testing.T
	d *disk.Disk
	j *journal.Journal
	p *plain
}

// begin opens the ring on a disk, and the plain one on a copy of it.
func begin(t *testing.T, d *disk.Disk, first, count int) *watch {
	t.Helper()
	x := &watch{t, d, nil, &plain{d: d.Copy(), first: first, count: count}}
	x.open()
	return x
}

// fresh is the journal of the chapter's examples, just formatted.
func fresh(t *testing.T) *watch {
	t.Helper()
	d := made(t, 8)
	if e := journal.Format(d, 2, 4); e != api.OK {
		t.Fatalf("Format = %d", e)
	}
	return begin(t, d, 2, 4)
}

// open opens both anew.
func (x *watch) open() {
	x.t.Helper()
	x.j = opened(x.t, x.d, x.p.first, x.p.count)
	x.p = find(x.p.d, x.p.first, x.p.count)
	x.look()
}

// look holds all that can be seen of the journal and of its disk against the plain ones.
func (x *watch) look() {
	x.t.Helper()
	if s, want := stateOf(x.j), (state{x.p.low, x.p.last, x.p.live}); !s.same(want) {
		x.t.Fatalf("Low, Last, Live = %v, want %v", s, want)
	}
	if c := x.j.Clean(); c != x.p.clean {
		x.t.Fatalf("Clean = %v", c)
	}
	if n := x.j.Room(); n != x.p.room() {
		x.t.Fatalf("Room = %d, want %d", n, x.p.room())
	}
	if l := x.d.Pending(); !slices.Equal(l, x.p.d.Pending()) {
		x.t.Fatalf("Pending = %v, want %v", l, x.p.d.Pending())
	}
	if !bytes.Equal(x.d.Image(), x.p.d.Image()) || !bytes.Equal(x.d.Durable(), x.p.d.Durable()) {
		x.t.Fatalf("the disk reads as %v, want %v", x.d.Image(), x.p.d.Image())
	}
}

// same holds an answer against the plain journal's, and then all that can be seen.
func (x *watch) same(call string, e, want api.Errno) api.Errno {
	x.t.Helper()
	if e != want {
		x.t.Fatalf("%s = %d, want %d", call, e, want)
	}
	x.look()
	return e
}

func (x *watch) append(kind int, data []byte) (int, api.Errno) {
	x.t.Helper()
	n, e := x.j.Append(kind, data)
	m, want := x.p.append(kind, data)
	if n != m {
		x.t.Fatalf("Append = %d, want %d", n, m)
	}
	return n, x.same("Append", e, want)
}

func (x *watch) trim(to int) api.Errno {
	x.t.Helper()
	return x.same("Trim", x.j.Trim(to), x.p.trim(to))
}

func (x *watch) sync() api.Errno {
	x.t.Helper()
	return x.same("Sync", x.j.Sync(), x.p.sync())
}

func (x *watch) scrub() api.Errno {
	x.t.Helper()
	return x.same("Scrub", x.j.Scrub(), x.p.scrub())
}

func (x *watch) fuse(n int) {
	x.t.Helper()
	x.same("Fuse", x.d.Fuse(n), x.p.d.Fuse(n))
}

// lay writes a sector behind the journal's back.
func (x *watch) lay(at int, b []byte) {
	x.t.Helper()
	x.same("Write", x.d.Write(at, b), x.p.d.Write(at, b))
}

// crash lets both disks crash; the journals are opened anew.
func (x *watch) crash(keep []bool, torn, cut int) {
	x.t.Helper()
	if e := x.d.Crash(keep, torn, cut); e != api.OK {
		x.t.Fatalf("Crash(%v, %d, %d) = %d", keep, torn, cut, e)
	}
	x.p.d.Crash(keep, torn, cut)
	x.open()
}

// wants fails the test unless low, last and the numbers of the live records are these.
func (x *watch) wants(low, last int, live ...int) {
	x.t.Helper()
	var seqs []int
	for _, r := range x.j.Live() {
		seqs = append(seqs, r.Seq)
	}
	if x.j.Low() != low || x.j.Last() != last || !slices.Equal(seqs, live) {
		x.t.Fatalf("Low %d, Last %d, Live %v; want %d, %d, %v", x.j.Low(), x.j.Last(), seqs, low, last, live)
	}
}

// adds appends a record that must be taken, with that number.
func (x *watch) adds(want, kind int, data string) {
	x.t.Helper()
	if n, e := x.append(kind, []byte(data)); n != want || e != api.OK {
		x.t.Fatalf("Append = %d, %d, want %d", n, e, want)
	}
}

func content(r *rand.Rand, n int) []byte {
	b := make([]byte, n)
	r.Read(b)
	return b
}

// keeping is what a number's bits say of n writes.
func keeping(n, bits int) []bool {
	keep := make([]bool, n)
	for i := range keep {
		keep[i] = bits>>i&1 == 1
	}
	return keep
}
