package hearth_test

import (
	"bytes"
	"math/rand"
	"reflect"
	"slices"
	"strconv"
	"testing"

	"torrent/api"
	"torrent/disk"
	"torrent/hearth"
	"torrent/vault"
)

// watch is a home beside the plain one that it must be like.
type watch struct {
	t  *testing.T
	l  []*disk.Disk // the notes' disk, then the slots'
	h  *hearth.Home
	p  *plain
	pl []*disk.Disk // the plain one's
}

// begin opens a home on a row of disks, and the plain one on copies of them.
func begin(t *testing.T, l ...*disk.Disk) *watch {
	t.Helper()
	x := &watch{t: t, l: l, pl: copies(l)}
	x.open()
	return x
}

// fresh is the home of the chapter's examples.
func fresh(t *testing.T) *watch {
	t.Helper()
	return begin(t, rowOf(t, 20, 40, 40)...)
}

// open opens both anew; the acts of the starts.
func (x *watch) open() [][]api.Act {
	x.t.Helper()
	h, acts, e := hearth.Open(own, us, x.l[0], x.l[1:])
	p, want, f := plainly(own, us, x.pl[0], x.pl[1:])
	if h == nil || e != api.OK || f != api.OK {
		x.t.Fatalf("Open = %v, %d; the plain one %d", h, e, f)
	}
	if !slices.EqualFunc(acts, want, sameActs) {
		x.t.Fatalf("Open's acts are %v, want %v", acts, want)
	}
	x.h, x.p = h, p
	x.look()
	return acts
}

// slots are the slots, and numbers that no slot has.
func (x *watch) slots() []int {
	l := []int{-1}
	for at := range len(x.l) + 1 {
		l = append(l, at)
	}
	return l
}

// look holds all that can be seen of the home and of its disks against the plain ones.
func (x *watch) look() {
	x.t.Helper()
	var held []int
	for _, at := range x.slots() {
		if x.p.holds(at) {
			held = append(held, at)
		}
		x.lookAt(at)
	}
	if l := x.h.Slots(); !slices.Equal(l, held) {
		x.t.Fatalf("Slots = %v, want %v", l, held)
	}
	for i, d := range x.l {
		p := x.pl[i]
		if !slices.Equal(d.Pending(), p.Pending()) || !bytes.Equal(d.Image(), p.Image()) || !bytes.Equal(d.Durable(), p.Durable()) {
			x.t.Fatalf("the disk %d has %v unsynced, and reads as %v; want %v, %v", i, d.Pending(), d.Image(), p.Pending(), p.Image())
		}
	}
}

// lookAt holds what is told of a slot against what the plain home tells.
func (x *watch) lookAt(at int) {
	x.t.Helper()
	s, e := x.h.State(at)
	want, f := x.p.state(at)
	if e != f || !sameStatus(s, want) {
		x.t.Fatalf("State(%d) = %+v, %d; want %+v, %d", at, s, e, want, f)
	}
	n, why := x.p.asked(at)
	for file := -1; file <= len(want.Done); file++ {
		b, e := x.h.File(at, file)
		w, f := x.p.c.File(n, file)
		x.answers("File", at, b, e, w, f, why)
	}
	b, e := x.h.Text(at)
	w, f := x.p.c.Text(n)
	x.answers("Text", at, b, e, w, f, why)
	l, e := x.h.Answers(at)
	m, f := x.p.c.Answers(n)
	if why != api.OK {
		m, f = nil, why
	}
	if e != f || !slices.EqualFunc(l, m, sameAnswer) {
		x.t.Fatalf("Answers(%d) = %v, %d; want %v, %d", at, l, e, m, f)
	}
}

// answers holds an answer against the client's, or against why there is none.
func (x *watch) answers(call string, at int, b []byte, e api.Errno, want []byte, f, why api.Errno) {
	x.t.Helper()
	if why != api.OK {
		want, f = nil, why
	}
	if e != f || !bytes.Equal(b, want) {
		x.t.Fatalf("%s(%d) = %q, %d; want %q, %d", call, at, b, e, want, f)
	}
}

func sameStatus(a, b api.Status) bool {
	if len(a.Done)+len(b.Done) == 0 {
		a.Done, b.Done = nil, nil
	}
	if len(a.Peers)+len(b.Peers) == 0 {
		a.Peers, b.Peers = nil, nil
	}
	return reflect.DeepEqual(a, b)
}

func sameAnswer(a, b api.Answer) bool { return reflect.DeepEqual(a, b) }

func sameAct(a, b api.Act) bool {
	return a.Kind == b.Kind && a.Peer == b.Peer && a.Piece == b.Piece && a.File == b.File && a.Why == b.Why && bytes.Equal(a.Data, b.Data)
}

func sameActs(a, b []api.Act) bool { return slices.EqualFunc(a, b, sameAct) }

// same holds an answer against the plain home's, and then all that can be seen.
func (x *watch) same(call string, n int, acts []api.Act, e api.Errno, wantN int, want []api.Act, f api.Errno) {
	x.t.Helper()
	if n != wantN || e != f || !sameActs(acts, want) {
		x.t.Fatalf("%s = %d, %v, %d; want %d, %v, %d", call, n, acts, e, wantN, want, f)
	}
	x.look()
}

func (x *watch) addText(text []byte) (int, api.Errno) {
	x.t.Helper()
	n, acts, e := x.h.AddText(text)
	m, want, f := x.p.add("T" + string(text))
	x.same("AddText", n, acts, e, m, want, f)
	return n, e
}

func (x *watch) addLink(link string) (int, api.Errno) {
	x.t.Helper()
	n, e := x.h.AddLink(link)
	m, _, f := x.p.add("L" + link)
	x.same("AddLink", n, nil, e, m, nil, f)
	return n, e
}

func (x *watch) remove(at int) api.Errno {
	x.t.Helper()
	e := x.h.Remove(at)
	x.same("Remove", 0, nil, e, 0, nil, x.p.remove(at))
	return e
}

func (x *watch) sync() api.Errno {
	x.t.Helper()
	e := x.h.Sync()
	x.same("Sync", 0, nil, e, 0, nil, x.p.sync())
	return e
}

// acts holds acts against those of the plain home's client.
func (x *watch) acts(call string, at, peer int, acts []api.Act, want func(number int) []api.Act) []api.Act {
	x.t.Helper()
	if w := x.p.talk(at, peer, call == "Join", want); !sameActs(acts, w) {
		x.t.Fatalf("%s(%d, %d) = %v, want %v", call, at, peer, acts, w)
	}
	return acts
}

func (x *watch) Join(at, peer int) []api.Act {
	x.t.Helper()
	return x.acts("Join", at, peer, x.h.Join(at, peer), func(n int) []api.Act { return x.p.c.Join(n, peer) })
}

func (x *watch) Bytes(at, peer int, b []byte) []api.Act {
	x.t.Helper()
	return x.acts("Bytes", at, peer, x.h.Bytes(at, peer, b), func(n int) []api.Act { return x.p.c.Bytes(n, peer, b) })
}

func (x *watch) Leave(at, peer int) []api.Act {
	x.t.Helper()
	return x.acts("Leave", at, peer, x.h.Leave(at, peer), func(n int) []api.Act { return x.p.c.Leave(n, peer) })
}

func (x *watch) Tick(at int) []api.Act {
	x.t.Helper()
	return x.acts("Tick", at, 0, x.h.Tick(at), func(n int) []api.Act { return x.p.c.Tick(n) })
}

// fetch lets a seeder of a torrent join a slot, and so many ticks go by.
func (x *watch) fetch(at, peer int, of *torrent, ticks int) {
	x.t.Helper()
	fetch(x, at, peer, of.seeder(x.t), ticks)
	x.look()
}

// give lets a peer give the info dictionary.
func (x *watch) give(at, peer int, of *torrent) {
	x.t.Helper()
	give(x, at, peer, of)
	x.look()
}

// crash lets all disks crash, and opens both homes anew; with a nil r nothing that was not synced is kept.
func (x *watch) crash(r *rand.Rand) [][]api.Act {
	x.t.Helper()
	for i, d := range x.l {
		keep, torn, cut := make([]bool, len(d.Pending())), -1, 0
		if r != nil {
			keep, torn, cut = flips(r, len(keep)), r.Intn(len(keep)+1)-1, r.Intn(65)
		}
		if e := d.Crash(keep, torn, cut); e != api.OK {
			x.t.Fatal("Crash:", e)
		}
		x.pl[i].Crash(keep, torn, cut)
	}
	return x.open()
}

// flips is a choice of writes that are kept: none, all, or any.
func flips(r *rand.Rand, n int) []bool {
	keep, how := make([]bool, n), r.Intn(3)
	for i := range keep {
		keep[i] = how == 1 || how == 2 && r.Intn(2) == 0
	}
	return keep
}

// texts, links and syncs must be taken.
func (x *watch) texts(of *torrent) int {
	x.t.Helper()
	n, e := x.addText(of.text)
	wants(x.t, "AddText", e, api.OK)
	return n
}

func (x *watch) links(of *torrent) int {
	x.t.Helper()
	n, e := x.addLink(of.link("x"))
	wants(x.t, "AddLink", e, api.OK)
	return n
}

func (x *watch) syncs() {
	x.t.Helper()
	wants(x.t, "Sync", x.sync(), api.OK)
}

func (x *watch) removes(at int) {
	x.t.Helper()
	wants(x.t, "Remove", x.remove(at), api.OK)
}

// holds fails the test unless just these slots hold a torrent.
func (x *watch) holds(slots ...int) {
	x.t.Helper()
	if l := x.h.Slots(); !slices.Equal(l, slots) {
		x.t.Fatalf("Slots = %v, want %v", l, slots)
	}
}

// phase fails the test unless a slot's torrent is in a phase, for that reason.
func (x *watch) phase(at, phase int, why api.Errno) {
	x.t.Helper()
	if s, e := x.h.State(at); e != api.OK || s.Phase != phase || s.Why != why {
		x.t.Fatalf("State(%d) = %+v, %d; want the phase %d, %d", at, s, e, phase, why)
	}
}

// noted fails the test unless just these notes lie on the notes' disk, in the slots 0, 1, ..; an empty one is none.
func (x *watch) noted(notes ...string) {
	x.t.Helper()
	got := notesOn(x.t, x.l[0])
	want := map[string]string{}
	for at, s := range notes {
		if s != "" {
			want[keyOf(at)] = s
		}
	}
	if !reflect.DeepEqual(got, want) {
		x.t.Fatalf("the notes are %q, want %q", got, want)
	}
}

// notesOn are the notes that lie on a disk.
func notesOn(t *testing.T, d *disk.Disk) map[string]string {
	t.Helper()
	v, e := vault.Open(d, 0, d.Size())
	if e != api.OK {
		t.Fatal("vault.Open:", e)
	}
	m := map[string]string{}
	for _, key := range v.Keys() {
		b, _ := v.Get(key)
		m[key] = string(b)
	}
	return m
}

func keyOf(at int) string { return "slot " + strconv.Itoa(at) }

func wants(t *testing.T, what string, e, want api.Errno) {
	t.Helper()
	if e != want {
		t.Fatalf("%s = %d, want %d", what, e, want)
	}
}
