package message_test

import (
	"bytes"
	"encoding/binary"
	"math/rand"
	"testing"

	"torrent/api"
	"torrent/message"
)

// reads fails the test unless Decode answers what the body says, and Encode the body again.
func reads(t *testing.T, b []byte) {
	t.Helper()
	want, e := read(b)
	decodes(t, b, want, e)
	m, e := message.Decode(b)
	if e != api.OK {
		nothing(t, m)
		return
	}
	encodes(t, m, b, api.OK)
}

// P11.2, P11.4: each kind of message there and back.
func TestThereAndBack(t *testing.T) {
	r := rand.New(rand.NewSource(10))
	for _, k := range order {
		for range 300 {
			m := valid(r, k)
			body, e := message.Encode(m)
			if e != api.OK || !bytes.Equal(body, written(m)) {
				t.Fatalf("Encode(%v) = %v, %d", short(m), body, e)
			}
			decodes(t, body, m, api.OK)
			reads(t, body)
		}
	}
}

// P11.2, P11.4: messages of the greatest lengths there and back.
func TestLongThereAndBack(t *testing.T) {
	r := rand.New(rand.NewSource(11))
	for _, m := range []api.Msg{
		{Kind: api.MsgBitfield, Data: content(r, 8192)}, {Kind: api.MsgPiece, Index: 1, Begin: 2, Data: content(r, 16384)}, {Kind: api.MsgOther, Index: 64, Data: content(r, 32767)},
		{Kind: api.MsgHashes, Root: hashes(r, 1)[0], Base: 1, Index: 2, Length: 3, Proofs: 4, Hashes: hashes(r, 560)},
	} {
		body, e := message.Encode(m)
		if e != api.OK {
			t.Fatalf("Encode(%v) = %d", short(m), e)
		}
		decodes(t, body, m, api.OK)
		decodes(t, append(body, make([]byte, 32)...), api.Msg{}, api.ErrMsgSize)
	}
}

// P11.3: no bytes are a sign of life; all bodies of one and of two bytes.
func TestShortBodies(t *testing.T) {
	for _, b := range [][]byte{nil, {}} {
		decodes(t, b, api.Msg{Kind: api.MsgAlive}, api.OK)
	}
	for first := range 256 {
		reads(t, []byte{byte(first)})
		for second := range 256 {
			reads(t, []byte{byte(first), byte(second)})
		}
	}
}

// P11.3: each first byte below 64 with each length up to where none is allowed any more.
func TestLengths(t *testing.T) {
	b := content(rand.New(rand.NewSource(12)), 18100)
	copy(b[9:], []byte{0, 0, 1, 0})
	for first := range 25 {
		b[0] = byte(first)
		for n := 1; n <= len(b); n++ {
			m, e := message.Decode(b[:n])
			want, wantErr := read(b[:n])
			if e != wantErr || !alike(m, want) {
				t.Fatalf("Decode(%d .., of %d bytes) = %v, %d, want %d", first, n, short(m), e, wantErr)
			}
		}
	}
}

// P11.3: each first byte with the lengths at the limits; above MaxFrame the length is told ahead of the kind.
func TestLimits(t *testing.T) {
	b := content(rand.New(rand.NewSource(13)), 70000)
	copy(b[9:], []byte{0, 0, 0, 9})
	for first := range 256 {
		b[0] = byte(first)
		for _, n := range []int{1, 2, 4, 5, 6, 9, 10, 12, 13, 14, 48, 49, 50, 80, 81, 82, 113, 8192, 8193, 8194, 16392, 16393, 16394, 17968, 17969, 17970, 18001, 32767, 32768} {
			reads(t, b[:n])
		}
		for _, n := range []int{32769, 32770, 49 + 32*1023, 65536, 70000} {
			decodes(t, b[:n], api.Msg{}, api.ErrMsgSize)
		}
	}
}

// P11.3: the Length of requests and cancels, all other numbers being whatever they are.
func TestAsked(t *testing.T) {
	r := rand.New(rand.NewSource(14))
	lengths := []uint32{0, 1, 2, 255, 256, 16383, 16384, 16385, 16640, 1 << 15, 1 << 16, 1<<16 + 1, 1 << 24, 1<<24 + 64, 1<<31 - 1, 1 << 31, 1<<31 + 64, 1<<32 - 1}
	for range 300 {
		lengths = append(lengths, r.Uint32()>>r.Intn(32))
	}
	for _, n := range lengths {
		for _, first := range []byte{api.MsgRequest, api.MsgCancel} {
			b := append([]byte{first}, content(r, 8)...)
			b = binary.BigEndian.AppendUint32(b, n)
			reads(t, b)
			want := api.ErrMsgField
			if n >= 1 && n <= 16384 {
				want = api.OK
			}
			if _, e := message.Decode(b); e != want {
				t.Errorf("Decode(%v) = %d, want %d", b, e, want)
			}
		}
	}
	for _, first := range []byte{api.MsgHashRequest, api.MsgHashes, api.MsgHashReject} {
		reads(t, append([]byte{first}, bytes.Repeat([]byte{255}, 48)...))
		reads(t, append([]byte{first}, make([]byte, 48)...))
	}
}

// P11.3, P11.4: bodies of any bytes, and bodies of messages that were changed, cut or made longer.
func TestAnyBodies(t *testing.T) {
	r := rand.New(rand.NewSource(15))
	for range 20000 {
		b := content(r, r.Intn(120))
		if len(b) > 0 && r.Intn(2) == 0 {
			b[0] = byte(r.Intn(25))
		}
		reads(t, b)
		b = written(valid(r, order[r.Intn(len(order))]))
		if len(b) > 0 {
			b[r.Intn(len(b))] = byte(r.Intn(256))
		}
		reads(t, b)
		reads(t, b[:r.Intn(len(b)+1)])
		reads(t, append(b, content(r, r.Intn(40))...))
	}
}
