package vault

import (
	"maps"
	"slices"
)

// entry is what a directory tells of a key.
type entry struct {
	key   string
	value lead
}

// entrySize is how many bytes a directory has for a key.
func entrySize(key string) int { return 1 + len(key) + leadSize }

// directoryOf is the directory of values by their keys.
func directoryOf(values map[string]chain) []byte {
	var b []byte
	for _, key := range slices.Sorted(maps.Keys(values)) {
		value := values[key].lead().text()
		b = append(b, byte(len(key)))
		b = append(b, key...)
		b = append(b, value[:]...)
	}
	return b
}

// entriesOf are the entries of a directory, if these bytes are one.
func entriesOf(b []byte) ([]entry, bool) {
	var all []entry
	last := ""
	for len(b) > 0 {
		x, n := entryIn(b)
		// An empty key is not greater than any, so this keeps it out too.
		if n == 0 || x.key <= last || x.value.size > maxValue {
			return nil, false
		}
		all, last, b = append(all, x), x.key, b[n:]
	}
	return all, true
}

// entryIn is the entry at the beginning of a directory's bytes, and how many bytes it takes: 0, if it is not all there.
func entryIn(b []byte) (entry, int) {
	keyEnd := 1 + int(b[0])
	end := keyEnd + leadSize
	if len(b) < end {
		return entry{}, 0
	}
	return entry{string(b[1:keyEnd]), leadIn([leadSize]byte(b[keyEnd:end]))}, end
}
