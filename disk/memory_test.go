package disk_test

import (
	"bytes"
	"math/rand"
	"slices"
	"testing"

	"torrent/api"
	"torrent/disk"
)

// spoil writes over a list and its spare room.
func spoil(b []byte) {
	b = b[:cap(b)]
	for i := range b {
		b[i] ^= 255
	}
}

// P12.12: what is handed in is not changed, its spare room neither, and not kept.
func TestArguments(t *testing.T) {
	r := rand.New(rand.NewSource(30))
	for range 200 {
		image := content(r, 400)
		was := slices.Clone(image)
		d, _ := disk.Load(image[:128])
		x := &watch{t, d, &plain{lasts: [][]byte{was[:64], was[64:128]}, fuse: -1}}
		unchanged(t, x, image, was)
		for range 10 {
			b := content(r, 100)
			was := slices.Clone(b)
			x.write(r.Intn(2), b[:64])
			unchanged(t, x, b, was)
		}
		keep := flips(r, 20)
		told := slices.Clone(keep)
		x.crash(keep[:10], r.Intn(10), r.Intn(65))
		if !slices.Equal(keep, told) {
			t.Fatal("Crash has changed what it was told")
		}
		clear(keep)
		x.look()
	}
}

// unchanged fails the test if bytes that were handed in are not what they were, or if the disk hangs on them.
func unchanged(t *testing.T, x *watch, b, was []byte) {
	t.Helper()
	if !bytes.Equal(b, was) {
		t.Fatal("what was handed in has changed")
	}
	spoil(b)
	x.look()
	if spoil(b); !bytes.Equal(b, was) {
		t.Fatal("what was handed in was kept, and has changed")
	}
}

// P0.5, P12.12: answers that are written over and appended to are seen in no disk and in no other answer.
func TestAnswers(t *testing.T) {
	r := rand.New(rand.NewSource(31))
	for range 200 {
		x := begin(t, 1+r.Intn(4))
		for range 30 {
			x.step(r)
			image, lasts, l := x.d.Image(), x.d.Durable(), x.d.Pending()
			again, againLasts, againList := x.d.Image(), x.d.Durable(), x.d.Pending()
			b, _ := x.d.Read(0)
			c, _ := x.d.Read(0)
			was := slices.Clone(c)
			spoil(image)
			spoil(lasts)
			spoil(b)
			for i := range l[:cap(l)] {
				l[:cap(l)][i] = 99
			}
			_, _, _ = append(image, 1, 2), append(lasts, 3, 4), append(b, 5, 6)
			if !bytes.Equal(again, x.p.image()) || !bytes.Equal(againLasts, slices.Concat(x.p.lasts...)) || !slices.Equal(againList, x.p.pending()) || !bytes.Equal(c, was) {
				t.Fatal("an answer was written over, and another one has changed")
			}
			x.look()
		}
	}
}

// P12.10: what is done with a disk is not seen in its copy, and not the other way round, whatever the room behind their lists.
func TestCopiesApart(t *testing.T) {
	r := rand.New(rand.NewSource(32))
	for range 300 {
		x := begin(t, 1+r.Intn(3))
		for range r.Intn(20) {
			x.write(r.Intn(x.d.Size()), content(r, 64))
		}
		c := x.twin()
		second := c.twin()
		for range 10 {
			at := r.Intn(x.d.Size())
			x.write(at, content(r, 64))
			c.write(at, content(r, 64))
			second.look()
		}
		n := len(x.p.writes)
		c.crash(flips(r, n), r.Intn(n), r.Intn(65))
		x.look()
		x.crash(flips(r, n), r.Intn(n), r.Intn(65))
		c.look()
		second.sync()
		x.look()
		c.look()
	}
}

// P0.3: what a disk answers hangs neither on other disks nor on what is asked of it in between.
func TestDisksApart(t *testing.T) {
	r := rand.New(rand.NewSource(33))
	a, b := begin(t, 2), begin(t, 2)
	for range 300 {
		a.step(r)
		b.look()
		b.step(r)
		a.look()
	}
}

// P0.6, P12.12: a disk that is nil.
func TestNil(t *testing.T) {
	var d *disk.Disk
	for _, at := range []int{-1, 0, 5} {
		for _, b := range [][]byte{nil, w(1)} {
			if e := d.Write(at, b); e != api.ErrNil {
				t.Errorf("Write = %d", e)
			}
		}
		if b, e := d.Read(at); len(b) != 0 || e != api.ErrNil {
			t.Errorf("Read = %v, %d", b, e)
		}
		if e := d.Crash([]bool{true}, at, at); e != api.ErrNil {
			t.Errorf("Crash = %d", e)
		}
		if e := d.Fuse(at); e != api.ErrNil {
			t.Errorf("Fuse = %d", e)
		}
	}
	if e := d.Sync(); e != api.ErrNil {
		t.Errorf("Sync = %d", e)
	}
	if d.Size() != 0 || len(d.Pending()) != 0 || len(d.Image()) != 0 || len(d.Durable()) != 0 || d.Copy() != nil {
		t.Errorf("Size %d, Pending %v, Image %v, Durable %v, Copy %v", d.Size(), d.Pending(), d.Image(), d.Durable(), d.Copy())
	}
}

// P0.1: a disk that neither New nor Load has made has no sector, and panics at nothing.
func TestUnmade(t *testing.T) {
	for _, d := range []*disk.Disk{new(disk.Disk), new(disk.Disk).Copy()} {
		b, e := d.Read(0)
		if d.Size() != 0 || len(b) != 0 || e != api.ErrSector || d.Write(0, w(1)) != api.ErrSector || d.Fuse(0) != api.OK || d.Sync() != api.OK || d.Crash(nil, -1, 0) != api.OK {
			t.Errorf("Size %d, Read %v, %d", d.Size(), b, e)
		}
		if len(d.Pending()) != 0 || len(d.Image()) != 0 || len(d.Durable()) != 0 {
			t.Errorf("Pending %v, Image %v, Durable %v", d.Pending(), d.Image(), d.Durable())
		}
	}
}
