package message_test

import (
	"bytes"
	"math/rand"
	"slices"
	"testing"

	"torrent/api"
	"torrent/message"
)

// copied is a message with lists of its own, spare room included.
func copied(m api.Msg) api.Msg {
	m.Data = slices.Clone(m.Data[:cap(m.Data)])[:len(m.Data)]
	m.Hashes = slices.Clone(m.Hashes[:cap(m.Hashes)])[:len(m.Hashes)]
	return m
}

func allCopied(ms []api.Msg) []api.Msg {
	var l []api.Msg
	for _, m := range ms {
		l = append(l, copied(m))
	}
	return l
}

// spoil writes over a message's lists and their spare room.
func spoil(m api.Msg) {
	for i := range m.Data[:cap(m.Data)] {
		m.Data[:cap(m.Data)][i] ^= 255
	}
	for i := range m.Hashes[:cap(m.Hashes)] {
		m.Hashes[:cap(m.Hashes)][i][0] ^= 255
	}
}

// roomy is a message whose lists have spare room.
func roomy(r *rand.Rand, m api.Msg) api.Msg {
	if len(m.Data) > 0 {
		m.Data = append(m.Data, content(r, 100)...)[:len(m.Data)]
	}
	if len(m.Hashes) > 0 {
		m.Hashes = append(m.Hashes, hashes(r, 10)...)[:len(m.Hashes)]
	}
	return m
}

// unchanged tells whether a message is what it was, spare room included.
func unchanged(m, was api.Msg) bool {
	if !alike(m, was) {
		return false
	}
	n, k := min(cap(m.Data), cap(was.Data)), min(cap(m.Hashes), cap(was.Hashes))
	return bytes.Equal(m.Data[:n], was.Data[:n]) && slices.Equal(m.Hashes[:k], was.Hashes[:k])
}

// P11.8: messages that are handed in are not changed, and no text that was answered hangs on them.
func TestMessagesHandedIn(t *testing.T) {
	r := rand.New(rand.NewSource(30))
	for range 500 {
		ms := some(r, 4)
		for i := range ms {
			ms[i] = roomy(r, ms[i])
		}
		was := allCopied(ms)
		message.Valid(ms[0])
		body, _ := message.Encode(ms[0])
		text, _ := message.Wire(ms[:3])
		wire := append(slices.Clone(ms), bad...)
		message.Wire(wire)
		for i := range ms {
			if !unchanged(ms[i], was[i]) || !unchanged(wire[i], was[i]) {
				t.Fatalf("changed: %v", short(was[i]))
			}
			spoil(ms[i])
		}
		if !bytes.Equal(body, written(was[0])) || !bytes.Equal(text, stream(was[:3])) {
			t.Fatalf("a text has changed with %v", short(was[0]))
		}
	}
}

// P11.8: bytes that are handed in are not changed, nor those behind them, and no message that was answered hangs on them.
func TestBytesHandedIn(t *testing.T) {
	r := rand.New(rand.NewSource(31))
	for range 500 {
		want := some(r, 4)
		body, text := written(want[0]), stream(want)
		behind := append(slices.Clone(body), content(r, 100)...)
		whole := append(slices.Clone(text), content(r, 100)...)
		wasBehind, wasWhole := slices.Clone(behind), slices.Clone(whole)
		m, _ := message.Decode(behind[:len(body)])
		ms, _, _ := message.Unwire(whole[:len(text)])
		if !bytes.Equal(behind, wasBehind) || !bytes.Equal(whole, wasWhole) {
			t.Fatalf("changed: %v", body)
		}
		clear(behind)
		clear(whole)
		if !alike(m, want[0]) || !allAlike(ms, want) {
			t.Fatalf("a message has changed with %v", body)
		}
	}
}

// P11.8, P0.5: no two messages of an answer share memory, nor do those of two answers.
func TestMessagesApart(t *testing.T) {
	r := rand.New(rand.NewSource(32))
	for range 300 {
		b := stream(some(r, 12))
		text := slices.Clone(b)
		first, _, _ := message.Unwire(b)
		second, _, _ := message.Unwire(b)
		want := allCopied(first)
		for i := range first {
			spoil(first[i])
			_ = append(first[i].Data, 1, 2, 3)
			_ = append(first[i].Hashes, api.Hash{1})
			if !allAlike(first[i+1:], want[i+1:]) || !allAlike(second, want) {
				t.Fatalf("the message %d was written over, and another one has changed", i)
			}
			first[i] = api.Msg{}
		}
		_ = append(second[:len(second):len(second)], api.Msg{})
		if !bytes.Equal(b, text) {
			t.Fatal("the stream has changed with its messages")
		}
	}
}

// P11.8, P0.5: texts are new each time, and hang on no message.
func TestTextsApart(t *testing.T) {
	r := rand.New(rand.NewSource(33))
	for range 300 {
		ms := some(r, 3)
		was := allCopied(ms)
		for range 2 {
			body, _ := message.Encode(ms[0])
			text, _ := message.Wire(ms)
			if !bytes.Equal(body, written(was[0])) || !bytes.Equal(text, stream(was)) {
				t.Fatalf("Encode(%v) = %v", short(was[0]), body)
			}
			clear(body[:cap(body)])
			clear(text[:cap(text)])
			if !allAlike(ms, was) {
				t.Fatal("messages have changed with their text")
			}
		}
	}
}

// P11.8: a message that Decode answered is not changed by later calls.
func TestLaterCalls(t *testing.T) {
	r := rand.New(rand.NewSource(34))
	want := some(r, 200)
	var got []api.Msg
	buffer := make([]byte, 70000)
	for _, m := range want {
		n := copy(buffer, written(m))
		d, e := message.Decode(buffer[:n])
		if e != api.OK {
			t.Fatal(e)
		}
		got = append(got, d)
	}
	if !allAlike(got, want) {
		t.Error("messages have changed by later calls")
	}
}
