package meta

import (
	"errors"
	"testing"

	"torrent/api"
)

var small = api.Scale{Block: 64, Width: 32}

// The errors inside tell where they were met, and lead to their reason.
func TestFaults(t *testing.T) {
	_, err := read(small, []byte("d4:infod6:pieces0:e12:piece layersdee"))
	if !errors.Is(err, errHybrid) || errors.Unwrap(err) != errHybrid || err.Error() != "the info dictionary: version 1, or both versions at once" || number(err) != api.ErrMetaHybrid {
		t.Errorf("a hybrid: %v", err)
	}
	_, err = read(small, []byte("d4:infod9:file treed1:ad1:bd0:d6:lengthi5eeeee12:meta versioni2e4:name1:x12:piece lengthi64ee12:piece layersdee"))
	if !errors.Is(err, errRoot) || err.Error() != "a/b: "+errRoot.Error() {
		t.Errorf("a file without a root: %v", err)
	}
	_, err = write(small, api.Meta{Name: "..", PieceLen: 64})
	var r refusal
	if !errors.As(err, &r) || r.number != api.ErrNameDot || err.Error() != "the name: refused with the number 53" || number(err) != api.ErrNameDot {
		t.Errorf("a bad name: %v", err)
	}
	if at("nowhere", nil) != nil || below(api.OK) != nil || number(nil) != api.OK {
		t.Error("what is no error has become one")
	}
}
