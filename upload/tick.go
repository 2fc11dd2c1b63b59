package upload

import (
	"cmp"
	"slices"

	"torrent/api"
)

// word is something that a tick finds to say.
type word interface {
	to() int
}

// whom is the peer that a word goes to.
type whom int

func (w whom) to() int { return int(w) }

// choke tells a peer that it may ask no longer.
type choke struct{ whom }

// unchoke tells a peer that it may ask.
type unchoke struct{ whom }

// block is to be read for a peer.
type block struct {
	whom
	request
}

// talk is what a tick has found to say so far, in its order.
type talk []word

// say puts words behind the others.
func (t *talk) say(words ...word) { *t = append(*t, words...) }

// Tick is a tick of time: who is choked and who no longer, and what is given.
func (u *Upload) Tick(now int) []api.Out {
	if u.missing() || now < 0 {
		return nil
	}
	var t talk
	if now%api.Round == 0 {
		u.choose(&t)
	}
	u.give(&t)
	return u.outs(t)
}

// outs makes the messages of a talk.
func (u *Upload) outs(t talk) []api.Out {
	var outs []api.Out
	for _, w := range t {
		if m, ok := u.message(w); ok {
			outs = append(outs, api.Out{Peer: w.to(), Msg: m})
		}
	}
	return outs
}

// message makes the message of a word; false, if it is for a block that the store does not read.
func (u *Upload) message(w word) (api.Msg, bool) {
	switch w := w.(type) {
	case choke:
		return api.Msg{Kind: api.MsgChoke}, true
	case unchoke:
		return api.Msg{Kind: api.MsgUnchoke}, true
	case block:
		data, e := u.store.Read(w.piece, w.begin, w.length)
		if e == api.OK {
			return api.Msg{Kind: api.MsgPiece, Index: w.piece, Begin: w.begin, Data: data}, true
		}
	}
	return api.Msg{}, false
}

// those lists the peers of which something holds, rising.
func (u *Upload) those(holds func(p *member) bool) []int {
	var l []int
	for peer, p := range u.peers {
		if holds(p) {
			l = append(l, peer)
		}
	}
	slices.Sort(l)
	return l
}

// choose decides who is open from now on.
func (u *Upload) choose(t *talk) {
	chosen := u.givers()
	if next := u.inTurn(chosen); len(next) > 0 {
		u.mark = next[len(next)-1]
		chosen = append(chosen, next...)
	}
	for _, p := range u.peers {
		p.credit = 0
	}
	concerned := append(u.those(isOpen), chosen...)
	slices.Sort(concerned)
	for _, peer := range slices.Compact(concerned) {
		u.turn(t, peer, slices.Contains(chosen, peer))
	}
}

func isOpen(p *member) bool { return p.open }

// givers are the interested peers that are chosen for what they gave. They never get all slots, so that everybody has its turn.
func (u *Upload) givers() []int {
	l := u.those(func(p *member) bool { return p.interested && p.credit > 0 })
	slices.SortStableFunc(l, func(a, b int) int {
		return cmp.Compare(u.peers[b].credit, u.peers[a].credit)
	})
	return l[:min(len(l), api.Slots-1)]
}

// inTurn are the interested peers that get the other slots: those behind the mark first.
func (u *Upload) inTurn(chosen []int) []int {
	l := u.those(func(p *member) bool { return p.interested })
	l = slices.DeleteFunc(l, func(peer int) bool { return slices.Contains(chosen, peer) })
	slices.SortStableFunc(l, func(a, b int) int { return cmp.Compare(u.lap(a), u.lap(b)) })
	return l[:min(len(l), api.Slots-len(chosen))]
}

// lap is 0 for the peers whose turn comes ahead of that of the others, which begin anew.
func (u *Upload) lap(peer int) int {
	if peer > u.mark {
		return 0
	}
	return 1
}

// turn opens or chokes a peer, and tells it so, if it was not so before.
func (u *Upload) turn(t *talk, peer int, open bool) {
	p := u.peers[peer]
	switch {
	case open && !p.open:
		t.say(unchoke{whom(peer)})
	case !open && p.open:
		p.waiting = nil
		t.say(choke{whom(peer)})
	}
	p.open = open
}

// give takes the oldest requests of the open peers.
func (u *Upload) give(t *talk) {
	for _, peer := range u.those(isOpen) {
		p := u.peers[peer]
		n := min(len(p.waiting), api.Serve)
		for _, r := range p.waiting[:n] {
			t.say(block{whom(peer), r})
		}
		p.waiting = slices.Delete(p.waiting, 0, n)
	}
}
