package exchange_test

import (
	"slices"

	"torrent/api"
)

// plain is a fetch as the chapter's words say it: of each peer its size, each part that it gave, each that it refused, the part that is out and since when.
type plain struct {
	sc   api.Scale
	info api.Hash
	text []byte
	of   map[int]*said
}

type said struct {
	size    int // 0: none
	gave    map[int][]byte
	refused map[int]bool
	out     bool
	part    int
	since   int
}

func newPlain(sc api.Scale, info api.Hash) *plain {
	return &plain{sc: sc, info: info, of: map[int]*said{}}
}

func (p *plain) peer(n int) *said {
	if p.of[n] == nil {
		p.of[n] = &said{gave: map[int][]byte{}, refused: map[int]bool{}}
	}
	return p.of[n]
}

func (p *plain) parts(size int) int {
	n := 0
	for at := 0; at < size; at += p.sc.Block {
		n++
	}
	return n
}

func (p *plain) Size(peer, size int) api.Errno {
	if peer < 0 {
		return api.ErrArg
	}
	s := p.peer(peer)
	if size < 1 || size > 1048576 || s.size != 0 && s.size != size {
		return api.ErrPartSize
	}
	s.size = size
	return api.OK
}

func (p *plain) Next(peer, now int) (int, bool, api.Errno) {
	if peer < 0 || now < 0 {
		return 0, false, api.ErrArg
	}
	s := p.peer(peer)
	if p.text != nil || s.size == 0 || s.out {
		return 0, false, api.OK
	}
	for part := range p.parts(s.size) {
		if s.gave[part] == nil && !s.refused[part] {
			s.out, s.part, s.since = true, part, now
			return part, true, api.OK
		}
	}
	return 0, false, api.OK
}

func (p *plain) Take(peer, part, total int, data []byte) (bool, api.Errno) {
	if peer < 0 {
		return false, api.ErrArg
	}
	s := p.peer(peer)
	if !s.out || s.part != part {
		return false, api.ErrUnasked
	}
	s.out = false
	if total != s.size {
		return false, api.ErrPartSize
	}
	want := p.sc.Block
	if part == p.parts(s.size)-1 {
		want = s.size - part*p.sc.Block
	}
	if len(data) != want {
		return false, api.ErrPartLen
	}
	s.gave[part] = slices.Clone(data)
	var text []byte
	for i := range p.parts(s.size) {
		if s.gave[i] == nil {
			return false, api.OK
		}
		text = append(text, s.gave[i]...)
	}
	if sum(p.sc, text) != p.info {
		clear(s.gave)
		return false, api.ErrPartLie
	}
	p.text = text
	for _, other := range p.of {
		other.out = false
	}
	return true, api.OK
}

func (p *plain) Refuse(peer, part int) api.Errno {
	if peer < 0 {
		return api.ErrArg
	}
	s := p.peer(peer)
	if !s.out || s.part != part {
		return api.ErrUnasked
	}
	s.out = false
	s.refused[part] = true
	return api.OK
}

func (p *plain) Expire(now int) []int {
	var late []int
	for n, s := range p.of {
		if now >= 0 && s.out && now-s.since >= 8 {
			s.out = false
			late = append(late, n)
		}
	}
	slices.Sort(late)
	return late
}

func (p *plain) Drop(peer int) api.Errno {
	if peer < 0 {
		return api.ErrArg
	}
	delete(p.of, peer)
	return api.OK
}

func (p *plain) Info() ([]byte, bool) { return p.text, p.text != nil }
