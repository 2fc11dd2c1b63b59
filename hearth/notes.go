package hearth

import (
	"math"
	"strconv"
	"strings"

	"torrent/api"
	"torrent/disk"
	"torrent/vault"
)

const (
	keyStart = "slot " // of each key; the slot's number follows
	linkNote = 'L'     // the first byte of a note with a link
	textNote = 'T'     // that of a note with a metainfo

	heads     = 2  // sectors of a vault ahead of its places
	placeSize = 60 // bytes that a place holds
	entrySize = 17 // bytes that a key takes in the directory, beside its own
)

// note is what the notes know of a torrent: under which key, and by what it came. The link or the metainfo itself is in the vault alone.
type note struct {
	key  string
	kind byte
}

// value is what lies in the vault for a note.
func (n note) value(body []byte) []byte { return append([]byte{n.kind}, body...) }

// isNote tells whether a value of the vault may be one of a note.
func isNote(value []byte) bool {
	return len(value) > 0 && (value[0] == linkNote || value[0] == textNote)
}

// keyOf is the key of a slot.
func keyOf(at int) string { return keyStart + strconv.Itoa(at) }

// slotOf is the slot whose key this is; false, if it is that of no number.
func slotOf(key string) (int, bool) {
	digits, is := strings.CutPrefix(key, keyStart)
	if !is || !isNumber(digits) {
		return 0, false
	}
	at, err := strconv.Atoi(digits)
	if err != nil { // more than an int holds: beyond all slots, however many there are
		return math.MaxInt, true
	}
	return at, true
}

// isNumber tells whether a text is a number's digits, with no zero ahead of others.
func isNumber(text string) bool {
	if text == "" || strings.Trim(text, "0123456789") != "" {
		return false
	}
	return text[0] != '0' || len(text) == 1
}

// notes is the vault with a note of each torrent that a slot holds.
type notes struct {
	*vault.Vault
	places int
}

// openNotes opens the vault on all of a disk, and lays a new one where there is none.
func openNotes(d *disk.Disk) (notes, api.Errno) {
	v, e := vault.Open(d, 0, d.Size())
	if e == api.ErrVaultBad {
		if e = vault.Format(d, 0, d.Size()); e == api.OK {
			v, e = vault.Open(d, 0, d.Size())
		}
	}
	return notes{v, d.Size() - heads}, e
}

// haveRoom tells whether what is at hand can be committed, and behind that what is left when a torrent is gone: each of the two commits needs a directory of its own.
func (n notes) haveRoom() bool {
	all, directory := 0, 0
	for _, key := range n.Keys() {
		value, _ := n.Get(key)
		all += placesOf(len(value))
		directory += entrySize + len(key)
	}
	return all+2*placesOf(directory) <= n.places && n.Need() <= n.Free()
}

// placesOf is how many places so many bytes take.
func placesOf(size int) int { return (size + placeSize - 1) / placeSize }
