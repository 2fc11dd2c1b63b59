package client

import (
	"bytes"

	"torrent/api"
)

// bad is a torrent that no session could be started with. Nobody is connected, and nobody can be.
type bad struct {
	*common
	still
	why      api.Errno
	metainfo []byte
}

func (b *bad) shut() api.Errno { return b.why }

func (b *bad) state() api.Status {
	s := b.status(api.PhaseBad)
	s.Why = b.why
	return s
}

func (b *bad) text() ([]byte, api.Errno) { return bytes.Clone(b.metainfo), api.OK }
