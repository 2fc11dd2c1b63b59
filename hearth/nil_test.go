package hearth_test

import (
	"testing"

	"torrent/api"
	"torrent/hearth"
)

// P0.6, P27.11: a home that is nil, or that Open has not made.
func TestNoHome(t *testing.T) {
	for _, h := range []*hearth.Home{nil, {}, new(hearth.Home)} {
		for _, at := range []int{-1, 0, 1, 1<<63 - 1} {
			n, acts, e := h.AddText([]byte("x"))
			if n != 0 || len(acts) > 0 || e != api.ErrNil {
				t.Errorf("AddText = %d, %v, %d", n, acts, e)
			}
			if n, e := h.AddLink("x"); n != 0 || e != api.ErrNil {
				t.Errorf("AddLink = %d, %d", n, e)
			}
			wants(t, "Remove", h.Remove(at), api.ErrNil)
			wants(t, "Sync", h.Sync(), api.ErrNil)
			if n := len(h.Join(at, 1)) + len(h.Bytes(at, 1, []byte("x"))) + len(h.Leave(at, 1)) + len(h.Tick(at)) + len(h.Slots()); n > 0 {
				t.Error("there is something of no home")
			}
			if s, e := h.State(at); !sameStatus(s, api.Status{}) || e != api.ErrNil {
				t.Errorf("State = %v, %d", s, e)
			}
			b, e := h.File(at, 0)
			c, f := h.Text(at)
			l, g := h.Answers(at)
			if len(b)+len(c)+len(l) > 0 || e != api.ErrNil || f != api.ErrNil || g != api.ErrNil {
				t.Errorf("File %d, Text %d, Answers %d", e, f, g)
			}
		}
	}
}
