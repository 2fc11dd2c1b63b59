package hearth_test

import (
	"math/rand"
	"slices"
	"strconv"
	"strings"
	"testing"

	"torrent/api"
	"torrent/client"
	"torrent/create"
	"torrent/digest"
	"torrent/disk"
	"torrent/frame"
	"torrent/magnet"
	"torrent/meta"
	"torrent/store"
)

var own = api.Scale{Block: 64, Width: 32}

// us is our own number in all tests.
var us = [20]byte{1, 2, 3}

// torrent is a torrent with all that its files are. One that is no torrent has an info dictionary alone.
type torrent struct {
	m     api.Meta
	text  []byte // with all layers
	dict  string
	bare  []byte // without any: what is made of the dictionary
	info  api.Hash
	files []api.Source
	need  int // sectors
}

// some is content that hangs on its length alone.
func some(n int) []byte {
	b := make([]byte, n)
	rand.New(rand.NewSource(int64(n) + 1)).Read(b)
	return b
}

// lone is a torrent with any info dictionary.
func lone(dict string) *torrent {
	info, _ := digest.Hash(own, []byte(dict))
	return &torrent{dict: dict, bare: []byte("d4:info" + dict + "12:piece layersdee"), info: info}
}

// made is the torrent of files a, b, .. with these lengths.
func made(t *testing.T, name string, pieceLen int, lens ...int) *torrent {
	t.Helper()
	var files []api.Source
	for i, n := range lens {
		files = append(files, api.Source{Path: []string{string(rune('a' + i))}, Data: some(n)})
	}
	m, e := create.Build(own, name, pieceLen, files)
	if e != api.OK {
		t.Fatal("create.Build:", e)
	}
	text, _ := meta.Print(own, m)
	bald := m
	bald.Layers = nil
	bare, _ := meta.Print(own, bald)
	x := lone(string(bare[len("d4:info") : len(bare)-len("12:piece layersdee")]))
	x.m, x.text, x.files = m, text, files
	list, _ := create.List(own, m)
	if x.need, e = store.Need(own, list); e != api.OK {
		t.Fatal("store.Need:", e)
	}
	return x
}

// example is the torrent of the chapter's examples: one file of 100 bytes, two blocks, one piece.
func example(t *testing.T) *torrent {
	t.Helper()
	return made(t, "t", 128, 100)
}

// torrents are some of many kinds: of one piece, of several with a layer, empty ones, one that is too large for a disk of 40 sectors, and one that is none.
func torrents(t *testing.T) []*torrent {
	t.Helper()
	return []*torrent{
		example(t),
		made(t, "three", 64, 150, 0, 30),
		made(t, "empty", 64, 0),
		made(t, strings.Repeat("long", 20), 128, 10, 300),
		made(t, "large", 64, 3000),
		lone("d4:name3:bade"),
	}
}

// link is a link to the torrent, by a name.
func (x *torrent) link(name string) string {
	s, e := magnet.Print(api.Link{Info: x.info, Name: name})
	if e != api.OK {
		panic(e)
	}
	return s
}

// linkOf is a link of so many bytes.
func (x *torrent) linkOf(n int) string {
	return x.link(strings.Repeat("n", n-len(x.link(""))-len("&dn=")))
}

// filled is a disk on which all pieces of the torrent are had, and synced.
func (x *torrent) filled(t *testing.T) *disk.Disk {
	t.Helper()
	d := sectors(t, x.need)
	list, _ := create.List(own, x.m)
	s, e := store.Open(own, d, x.info, list)
	if e != api.OK {
		t.Fatal("store.Open:", e)
	}
	pieces, _ := create.Slice(x.m, x.files)
	for i, p := range pieces {
		for k, b := range slices.Collect(slices.Chunk(p, own.Block)) {
			s.Put(i, k*own.Block, b)
		}
		if e := s.Finish(i); e != api.OK {
			t.Fatal("store.Finish:", e)
		}
	}
	s.Sync()
	return d
}

// seeder is somebody else's client that has the torrent whole; its number is 0.
func (x *torrent) seeder(t *testing.T) *client.Client {
	t.Helper()
	c, _ := client.New(own, [20]byte{9})
	if n, _, e := c.AddText(x.text, x.filled(t)); n != 0 || e != api.OK {
		t.Fatal("client.AddText:", e)
	}
	return c
}

// ext is the frame of an extended message, by the words of chapter 21.
func ext(number byte, payload string) []byte {
	n := len(payload) + 2
	return append([]byte{0, 0, byte(n >> 8), byte(n), 20, number}, payload...)
}

// giving is what a peer sends, call by call, so that we have the info dictionary.
func (x *torrent) giving() [][]byte {
	h := api.Hello{Flags: [8]byte{5: 16}, Peer: [20]byte{9}}
	copy(h.Info[:], x.info[:])
	size := strconv.Itoa(len(x.dict))
	l := [][]byte{frame.Greet(h), ext(0, "d1:md11:ut_metadatai3ee13:metadata_sizei"+size+"ee")}
	for i := 0; i*own.Block < len(x.dict); i++ {
		part := x.dict[i*own.Block : min((i+1)*own.Block, len(x.dict))]
		l = append(l, ext(1, "d8:msg_typei1e5:piecei"+strconv.Itoa(i)+"e10:total_sizei"+size+"ee"+part))
	}
	return l
}

// hears is a home, or one that is watched, as peers see it.
type hears interface {
	Join(slot, peer int) []api.Act
	Bytes(slot, peer int, b []byte) []api.Act
	Tick(slot int) []api.Act
}

// give lets a peer give the info dictionary of a torrent.
func give(h hears, at, peer int, of *torrent) {
	h.Join(at, peer)
	for _, b := range of.giving() {
		h.Bytes(at, peer, b)
	}
}

// carry takes what a home and a seeder say to each other, until both are silent.
func carry(h hears, at, peer int, s *client.Client, here, there []api.Act) {
	for len(here)+len(there) > 0 {
		var back []api.Act
		for _, a := range here {
			if a.Kind == api.ActSend && a.Peer == peer {
				back = append(back, s.Bytes(0, peer, a.Data)...)
			}
		}
		here = nil
		for _, a := range there {
			if a.Kind == api.ActSend {
				here = append(here, h.Bytes(at, peer, a.Data)...)
			}
		}
		there = back
	}
}

// fetch lets a seeder join a slot, and so many ticks go by.
func fetch(h hears, at, peer int, s *client.Client, ticks int) {
	there := s.Join(0, peer)
	carry(h, at, peer, s, h.Join(at, peer), there)
	for range ticks {
		there := s.Tick(0)
		carry(h, at, peer, s, h.Tick(at), there)
	}
}

func sectors(t *testing.T, n int) *disk.Disk {
	t.Helper()
	d, e := disk.New(n)
	if e != api.OK {
		t.Fatal("disk.New:", e)
	}
	return d
}

// rowOf is a row of empty disks: that of the notes, then those of the slots.
func rowOf(t *testing.T, sizes ...int) []*disk.Disk {
	t.Helper()
	var l []*disk.Disk
	for _, n := range sizes {
		l = append(l, sectors(t, n))
	}
	return l
}

func copies(l []*disk.Disk) []*disk.Disk {
	var m []*disk.Disk
	for _, d := range l {
		m = append(m, d.Copy())
	}
	return m
}
