package magnet

import (
	"iter"
	"slices"
	"strings"

	"torrent/api"
	"torrent/digest"
)

// The five keys.
const (
	keyInfo    = "xt"
	keyName    = "dn"
	keyOnly    = "so"
	keyTracker = "tr"
	keyPeer    = "x.pe"
)

// What the digits of an infohash stand behind.
const (
	infoAhead = "urn:btmh:1220"
	oldAhead  = "urn:btih:" // of version 1
)

// The kinds of parameters, in the order in which they stand in a text.
const (
	kindNone = iota // what stands ahead of the first one
	kindInfo
	kindName
	kindOnly
	kindTracker
	kindPeer
	kindMore
)

func kindOf(key string) int {
	switch key {
	case keyInfo:
		return kindInfo
	case keyName:
		return kindName
	case keyOnly:
		return kindOnly
	case keyTracker:
		return kindTracker
	case keyPeer:
		return kindPeer
	}
	return kindMore
}

// isFormed tells whether each thing in a link may be one of its kind, whatever stands beside it.
func isFormed(l api.Link) bool {
	return !slices.Contains(l.Trackers, "") && !slices.Contains(l.Peers, "") &&
		!slices.ContainsFunc(l.Only, isStrayRun) && !slices.ContainsFunc(l.More, isStrayPair)
}

func isStrayPair(p api.Pair) bool {
	v := p.Val
	return p.Key == "" || v.Kind != api.KindStr || v.Int != 0 || len(v.List) > 0 || len(v.Dict) > 0
}

func isOrdered(l api.Link) bool {
	return areApart(l.Only) && slices.IsSortedFunc(l.More, byKey)
}

func byKey(a, b api.Pair) int { return strings.Compare(a.Key, b.Key) }

// isDouble tells whether something stands twice in a link whose keys are sorted.
func isDouble(l api.Link) bool {
	for i, p := range l.More {
		if kindOf(p.Key) != kindMore || i > 0 && p.Key == l.More[i-1].Key {
			return true
		}
	}
	return hasTwins(l.Trackers) || hasTwins(l.Peers)
}

// hasTwins goes by a sorted copy: a list may be long.
func hasTwins(list []string) bool {
	sorted := slices.Sorted(slices.Values(list))
	return len(slices.Compact(sorted)) < len(list)
}

// written is the text of a link, if it is not too long.
func written(l api.Link) (string, bool) {
	var text strings.Builder
	ahead := scheme
	for key, value := range parameters(l) {
		// No text is shorter than what it stands for: so what is far too long need not be written out.
		if len(key) > api.MaxLink || len(value) > api.MaxLink {
			return "", false
		}
		text.WriteString(ahead + Escape(key) + "=" + Escape(value))
		if text.Len() > api.MaxLink {
			return "", false
		}
		ahead = "&"
	}
	return text.String(), true
}

// parameters goes through the keys and values of a link in the order of its text.
func parameters(l api.Link) iter.Seq2[string, string] {
	return func(yield func(key, value string) bool) {
		if !yield(keyInfo, infoAhead+digest.Hex(l.Info[:])) {
			return
		}
		if l.Name != "" && !yield(keyName, l.Name) {
			return
		}
		if len(l.Only) > 0 && !yield(keyOnly, runsText(l.Only)) {
			return
		}
		for _, tracker := range l.Trackers {
			if !yield(keyTracker, tracker) {
				return
			}
		}
		for _, peer := range l.Peers {
			if !yield(keyPeer, peer) {
				return
			}
		}
		for _, p := range l.More {
			if !yield(p.Key, p.Val.Str) {
				return
			}
		}
	}
}
