package meta

import (
	"errors"
	"strconv"

	"torrent/api"
)

// The reasons for which this layer refuses by itself.
var (
	errShape   = errors.New("a key is missing, or its value is of another kind")
	errHybrid  = errors.New("version 1, or both versions at once")
	errVersion = errors.New("not version 2")
	errPiece   = errors.New("a piece length that may not be")
	errTree    = errors.New("no file tree")
	errLength  = errors.New("a length that may not be")
	errRoot    = errors.New("a root that is missing, or too much, or no hash")
	errLayer   = errors.New("no layer of this torrent")
	errMore    = errors.New("other keys that may not be")
	errOrder   = errors.New("not in the order that it must have")
	errPlace   = errors.New("there is no such file")
)

// fault is an error together with where it was met.
type fault struct {
	where  string
	reason error
}

func (f *fault) Error() string { return f.where + ": " + f.reason.Error() }

func (f *fault) Unwrap() error { return f.reason }

// at tells where an error was met, if there is one.
func at(where string, reason error) error {
	if reason == nil {
		return nil
	}
	return &fault{where: where, reason: reason}
}

// refusal is what a layer below refuses, or what is refused in its words: it has that layer's number.
type refusal struct{ number api.Errno }

func (r refusal) Error() string {
	return "refused with the number " + strconv.Itoa(int(r.number))
}

// below turns the answer of a layer below into an error, if it is one.
func below(e api.Errno) error {
	if e == api.OK {
		return nil
	}
	return refusal{number: e}
}

// number turns an error into what the face answers.
func number(err error) api.Errno {
	var r refusal
	switch {
	case err == nil:
		return api.OK
	case errors.As(err, &r):
		return r.number
	case errors.Is(err, errShape):
		return api.ErrMetaShape
	case errors.Is(err, errHybrid):
		return api.ErrMetaHybrid
	case errors.Is(err, errVersion):
		return api.ErrMetaVersion
	case errors.Is(err, errPiece):
		return api.ErrMetaPiece
	case errors.Is(err, errTree):
		return api.ErrMetaTree
	case errors.Is(err, errLength):
		return api.ErrMetaLength
	case errors.Is(err, errRoot):
		return api.ErrMetaRoot
	case errors.Is(err, errLayer):
		return api.ErrMetaLayer
	case errors.Is(err, errMore):
		return api.ErrMetaMore
	case errors.Is(err, errOrder):
		return api.ErrMetaOrder
	}
	// errPlace is left.
	return api.ErrArg
}
