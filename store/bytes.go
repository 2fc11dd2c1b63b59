package store

import "torrent/api"

// write lays bytes into the sectors of a piece, from the one on in which begin lies, with zeros behind them.
func (s *Store) write(p *state, begin int, data []byte) api.Errno {
	at := p.first + begin/api.Sector
	for len(data) > 0 {
		var b sector
		n := copy(b[:], data)
		if e := s.disk.Write(at, b[:]); e != api.OK {
			return e
		}
		at, data = at+1, data[n:]
	}
	return api.OK
}

// read answers n bytes of a piece from begin on.
func (s *Store) read(p *state, begin, n int) ([]byte, api.Errno) {
	data := make([]byte, 0, n)
	for len(data) < n {
		b, e := s.disk.Read(p.first + begin/api.Sector)
		if e != api.OK {
			return nil, e
		}
		b = b[begin%api.Sector:]
		b = b[:min(len(b), n-len(data))]
		data, begin = append(data, b...), begin+len(b)
	}
	return data, api.OK
}
