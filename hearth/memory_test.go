package hearth_test

import (
	"bytes"
	"slices"
	"testing"

	"torrent/api"
	"torrent/hearth"
)

// spoil writes over a list and its spare room.
func spoil(b []byte) {
	b = b[:cap(b)]
	for i := range b {
		b[i] ^= 255
	}
}

// P0.4, P27.11: texts and bytes that are handed in are not changed, their spare room neither, and not kept; nor is the list of disks.
func TestArguments(t *testing.T) {
	one := example(t)
	l := rowOf(t, 20, 40, 40)
	slots := slices.Grow(slices.Clone(l[1:]), 5)
	h, _, e := hearth.Open(own, us, l[0], slots)
	wants(t, "Open", e, api.OK)
	clear(slots[:cap(slots)])
	b := append(slices.Clone(one.text), junk...)
	text := b[:len(one.text)]
	_, _, e = h.AddText(text)
	wants(t, "AddText", e, api.OK)
	if !bytes.Equal(b, append(slices.Clone(one.text), junk...)) {
		t.Fatal("what was handed in has changed")
	}
	spoil(b)
	was := bytes.Clone(b)
	n, e := h.AddLink(made(t, "other", 64, 70).link("x"))
	if n != 1 || e != api.OK {
		t.Fatalf("AddLink = %d, %d", n, e)
	}
	wants(t, "Sync", h.Sync(), api.OK)
	if !bytes.Equal(b, was) {
		t.Fatal("what was handed in was kept, and has changed")
	}
	if s := notesOn(t, l[0])["slot 0"]; s != "T"+string(one.text) {
		t.Errorf("the note is %q", s)
	}
	if got, _ := h.Text(0); !bytes.Equal(got, one.text) {
		t.Errorf("Text = %q", got)
	}
	h.Join(0, 3)
	hello := slices.Grow(one.giving()[0], 10)
	was = bytes.Clone(hello[:cap(hello)])
	for range 2 {
		h.Bytes(0, 3, hello[:40])
		h.Bytes(0, 3, hello[40:])
	}
	if !bytes.Equal(hello[:cap(hello)], was) {
		t.Error("what was handed in has changed")
	}
}

// ruin writes over all that an answer of acts has.
func ruin(acts []api.Act) {
	for i := range acts {
		spoil(acts[i].Data)
	}
	acts = acts[:cap(acts)]
	for i := range acts {
		acts[i] = api.Act{Kind: 77, Peer: 77, Data: junk}
	}
}

// P0.5, P27.11: answers that are written over are seen in no home, on no disk and in no other answer.
func TestAnswers(t *testing.T) {
	one, three := example(t), torrents(t)[1]
	x := begin(t, rowOf(t, 60, 40, 40, 40)...)
	x.texts(one)
	x.fetch(0, 3, one, 20)
	x.links(three)
	x.give(1, 4, three)
	x.fetch(1, 3, three, 30)
	if l, e := x.h.Answers(1); e != api.OK || len(l) == 0 {
		t.Fatalf("Answers = %v, %d", l, e)
	}
	x.syncs()
	acts := x.open()
	for at := range acts {
		ruin(acts[at])
	}
	clear(acts[:cap(acts)])
	x.look()
	ruin(x.Join(0, 5))
	x.look()
	for range 2 {
		x.ruinAnswers(1)
	}
	x.syncs()
	x.crash(nil)
	x.phase(0, api.PhaseRunning, api.OK)
}

// ruinAnswers writes over what is told of a slot.
func (x *watch) ruinAnswers(at int) {
	x.t.Helper()
	l := x.h.Slots()
	_ = append(l, 77)
	clear(l[:cap(l)])
	s, _ := x.h.State(at)
	clear(s.Done[:cap(s.Done)])
	clear(s.Peers[:cap(s.Peers)])
	text, _ := x.h.Text(at)
	spoil(text)
	b, _ := x.h.File(at, 0)
	spoil(b)
	answers, _ := x.h.Answers(at)
	for i := range answers {
		clear(answers[i].Hashes[:cap(answers[i].Hashes)])
	}
	clear(answers[:cap(answers)])
	x.look()
}

// P0.5: the acts of a torrent that has failed are new at each time.
func TestActsOfFailed(t *testing.T) {
	x := begin(t, notesWith(t, 20, "slot 0", "Tx"), sectors(t, 40))
	a, b := x.h.Join(0, 1), x.h.Join(0, 2)
	ruin(a)
	_ = append(b, api.Act{})
	if len(b) != 1 || b[0].Peer != 2 || b[0].Why != api.ErrTextByte {
		t.Errorf("Join = %v", b)
	}
	x.Join(0, 1)
}
