package message_test

import (
	"bytes"
	"slices"
	"testing"

	"torrent/api"
	"torrent/message"
)

// encodes fails the test unless Encode answers that body or that error.
func encodes(t *testing.T, m api.Msg, body []byte, want api.Errno) {
	t.Helper()
	if b, e := message.Encode(m); e != want || !bytes.Equal(b, body) {
		t.Errorf("Encode(%v) = %d bytes, %d, want %d bytes, %d", short(m), len(b), e, len(body), want)
	}
	if e := message.Valid(m); e != want {
		t.Errorf("Valid(%v) = %d, want %d", short(m), e, want)
	}
}

// decodes fails the test unless Decode answers that message or that error.
func decodes(t *testing.T, body []byte, want api.Msg, wantErr api.Errno) {
	t.Helper()
	if m, e := message.Decode(body); e != wantErr || !alike(m, want) {
		t.Errorf("Decode(%v, of %d bytes) = %v, %d, want %v, %d", body[:min(len(body), 40)], len(body), short(m), e, short(want), wantErr)
	}
}

// The chapter's examples 1 and 2: messages of numbers.
func TestNumbersOfTheChapter(t *testing.T) {
	encodes(t, api.Msg{Kind: api.MsgAlive}, nil, api.OK)
	encodes(t, api.Msg{Kind: api.MsgChoke}, []byte{0}, api.OK)
	encodes(t, api.Msg{Kind: api.MsgHave, Index: 258}, []byte{4, 0, 0, 1, 2}, api.OK)
	m := api.Msg{Kind: api.MsgRequest, Index: 1, Begin: 64, Length: 64}
	encodes(t, m, []byte{6, 0, 0, 0, 1, 0, 0, 0, 64, 0, 0, 0, 64}, api.OK)
	for _, n := range []int{0, 16385, -1} {
		encodes(t, api.Msg{Kind: api.MsgRequest, Index: 1, Begin: 64, Length: n}, nil, api.ErrMsgField)
	}
	encodes(t, api.Msg{Kind: api.MsgRequest, Index: 4294967296, Begin: 64, Length: 64}, nil, api.ErrMsgField)
	m.Data = []byte("x")
	encodes(t, m, nil, api.ErrMsgForeign)
}

// The chapter's examples 3 and 4: Data of pieces and of bitfields.
func TestDataOfTheChapter(t *testing.T) {
	encodes(t, api.Msg{Kind: api.MsgPiece}, nil, api.ErrMsgSize)
	full := bytes.Repeat([]byte{200}, 16385)
	encodes(t, api.Msg{Kind: api.MsgPiece, Data: full[:16384]}, slices.Concat([]byte{7}, make([]byte, 8), full[:16384]), api.OK)
	encodes(t, api.Msg{Kind: api.MsgPiece, Data: full}, nil, api.ErrMsgSize)
	encodes(t, api.Msg{Kind: api.MsgBitfield}, []byte{5}, api.OK)
	encodes(t, api.Msg{Kind: api.MsgBitfield, Data: []byte{255, 128}}, []byte{5, 255, 128}, api.OK)
	encodes(t, api.Msg{Kind: api.MsgBitfield, Data: full[:8193]}, nil, api.ErrMsgSize)
}

// The chapter's examples 5 and 6: kinds that there are not, and those that may be passed over.
func TestKindsOfTheChapter(t *testing.T) {
	for _, k := range []int{9, -2, 64, 1001} {
		encodes(t, api.Msg{Kind: k}, nil, api.ErrMsgKind)
	}
	encodes(t, api.Msg{Kind: 9, Data: []byte("x")}, nil, api.ErrMsgKind)
	encodes(t, api.Msg{Kind: api.MsgChoke, Index: -1}, nil, api.ErrMsgForeign)
	encodes(t, api.Msg{Kind: api.MsgOther, Index: 64}, []byte{64}, api.OK)
	encodes(t, api.Msg{Kind: api.MsgOther, Index: 63}, nil, api.ErrMsgField)
	encodes(t, api.Msg{Kind: api.MsgOther, Index: 256}, nil, api.ErrMsgField)
	encodes(t, api.Msg{Kind: api.MsgOther, Index: 200, Data: []byte("ab")}, []byte{200, 97, 98}, api.OK)
}

// The chapter's examples 7, 8 and 9: bodies.
func TestBodiesOfTheChapter(t *testing.T) {
	for _, first := range []byte{9, 20, 24, 63} {
		decodes(t, []byte{first}, api.Msg{}, api.ErrMsgKind)
		decodes(t, append([]byte{first}, "anything"...), api.Msg{}, api.ErrMsgKind)
	}
	for _, b := range [][]byte{{0, 0}, {4, 0, 0, 1}, {7, 0, 0, 0, 0, 0, 0, 0, 0}} {
		decodes(t, b, api.Msg{}, api.ErrMsgSize)
	}
	decodes(t, []byte{8, 0, 0, 0, 1, 0, 0, 0, 0, 0, 0, 0, 0}, api.Msg{}, api.ErrMsgField)
	decodes(t, []byte{255, 1}, api.Msg{Kind: api.MsgOther, Index: 255, Data: []byte{1}}, api.OK)
	b := make([]byte, 49+32*561)
	b[0] = 22
	decodes(t, b[:49], api.Msg{Kind: api.MsgHashes}, api.OK)
	decodes(t, b[:50], api.Msg{}, api.ErrMsgSize)
	decodes(t, b[:81], api.Msg{Kind: api.MsgHashes, Hashes: make([]api.Hash, 1)}, api.OK)
	decodes(t, b, api.Msg{}, api.ErrMsgSize)
}

// The chapter's examples 10 and 11: streams.
func TestStreamsOfTheChapter(t *testing.T) {
	unchoke := []api.Msg{{Kind: api.MsgUnchoke}}
	if b, e := message.Wire([]api.Msg{{Kind: api.MsgAlive}, {Kind: api.MsgUnchoke}}); e != api.OK || !bytes.Equal(b, []byte{0, 0, 0, 0, 0, 0, 0, 1, 1}) {
		t.Errorf("Wire = %v, %d", b, e)
	}
	if b, e := message.Wire(append(unchoke, api.Msg{Kind: 9}, api.Msg{Kind: api.MsgChoke, Index: 1})); e != api.ErrMsgKind || len(b) > 0 {
		t.Errorf("Wire = %v, %d", b, e)
	}
	for _, c := range []struct {
		b []byte
		e api.Errno
	}{
		{[]byte{0, 0, 0, 1, 1, 0, 0, 0, 1, 9, 0, 0, 0, 1, 0}, api.ErrMsgKind}, {[]byte{0, 0, 0, 1, 1, 0, 0, 0, 5, 4}, api.OK}, {[]byte{0, 0, 0, 1, 1, 255, 0, 0, 0}, api.ErrFrame},
	} {
		if ms, n, e := message.Unwire(c.b); !allAlike(ms, unchoke) || n != 5 || e != c.e {
			t.Errorf("Unwire(%v) = %v, %d, %d", c.b, ms, n, e)
		}
	}
}
