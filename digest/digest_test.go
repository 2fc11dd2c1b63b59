package digest_test

import (
	"bytes"
	"crypto/sha256"
	"encoding/binary"
	"encoding/hex"
	"math"
	"math/bits"
	"slices"
	"strings"
	"testing"

	"torrent/api"
	"torrent/digest"
)

var (
	own = api.Scale{Block: 16384, Width: 32} // the protocol's own scale
	bad = []api.Scale{{}, {Block: 96, Width: 32}, {Block: 32, Width: 32}, {Block: 32768, Width: 32}, {Block: 64, Width: 0}, {Block: 64, Width: 33}, {Block: -64, Width: 32}, {Block: 64, Width: -1}, {Block: math.MinInt, Width: 1}, {Block: math.MaxInt, Width: math.MinInt}, {Block: 64, Width: math.MaxInt}}
)

// text answers n bytes without a pattern, the same ones each time.
func text(n int) []byte {
	b := make([]byte, n)
	x := uint32(12345)
	for i := range b {
		x = x*1664525 + 1013904223
		b[i] = byte(x >> 24)
	}
	return b
}

// roomy answers b in a list with spare room behind it, and the whole of that memory.
func roomy(b []byte) (list, whole []byte) {
	whole = append(bytes.Clone(b), bytes.Repeat([]byte{0xa5}, 200)...)
	return whole[:len(b)], whole
}

// P1.1: all numbers round the limits.
func TestGood(t *testing.T) {
	blocks := []int{64, 128, 256, 512, 1024, 2048, 4096, 8192, 16384}
	for block := -130; block <= 32769; block++ {
		want := api.ErrScale
		if slices.Contains(blocks, block) {
			want = api.OK
		}
		if e := digest.Good(api.Scale{Block: block, Width: 1}); e != want {
			t.Errorf("Good({%d, 1}) = %d", block, e)
		}
	}
	for width := -40; width <= 300; width++ {
		want := api.ErrScale
		if width >= 1 && width <= 32 {
			want = api.OK
		}
		for _, block := range blocks {
			if e := digest.Good(api.Scale{Block: block, Width: width}); e != want {
				t.Errorf("Good({%d, %d}) = %d", block, width, e)
			}
		}
	}
	for _, sc := range bad {
		if e := digest.Good(sc); e != api.ErrScale {
			t.Errorf("Good(%v) = %d", sc, e)
		}
	}
}

// P1.4: the definition, at small lengths and at the greatest.
func TestPad(t *testing.T) {
	lengths := []int{1 << 32, 1<<61 - 64, 1<<61 - 10, 1<<61 - 9, 1<<61 - 8, 1<<61 - 2, api.MaxTaken}
	for n := range 300 {
		lengths = append(lengths, n)
	}
	for _, n := range lengths {
		pad, e := digest.Pad(n)
		if e != api.OK || len(pad) < 9 || len(pad) > 72 || (n+len(pad))%64 != 0 {
			t.Errorf("Pad(%d) = %v, %d", n, pad, e)
			continue
		}
		end := len(pad) - 8
		if pad[0] != 128 || !bytes.Equal(pad[1:end], make([]byte, end-1)) {
			t.Errorf("Pad(%d) = %v", n, pad)
		}
		if got := binary.BigEndian.Uint64(pad[end:]); got != 8*uint64(n) {
			t.Errorf("Pad(%d) ends with %d", n, got)
		}
	}
}

// P1.4: what the document names.
func TestPadExamples(t *testing.T) {
	if pad, _ := digest.Pad(0); !bytes.Equal(pad, append([]byte{128}, make([]byte, 63)...)) {
		t.Errorf("Pad(0) = %v", pad)
	}
	if pad, _ := digest.Pad(55); !bytes.Equal(pad, []byte{128, 0, 0, 0, 0, 0, 0, 1, 184}) {
		t.Errorf("Pad(55) = %v", pad)
	}
	for _, c := range []struct{ n, size int }{{56, 72}, {63, 65}, {64, 64}} {
		if pad, _ := digest.Pad(c.n); len(pad) != c.size {
			t.Errorf("Pad(%d) has %d bytes", c.n, len(pad))
		}
	}
	for _, n := range []int{-1, -64, math.MinInt, api.MaxTaken + 1, math.MaxInt} {
		if pad, e := digest.Pad(n); e != api.ErrCount || pad != nil {
			t.Errorf("Pad(%d) = %v, %d", n, pad, e)
		}
	}
}

// turned is x turned round to the right by n bits, and down is x moved: the document's two ways with words.
func turned(x uint32, n int) uint32 { return bits.RotateLeft32(x, 32-n) }

func down(x uint32, n int) uint32 { return x / (1 << n) }

// P1.5: each word by its rule.
func TestExpand(t *testing.T) {
	source := text(64 * 20)
	for i := range 64 {
		source[i], source[64+i] = 0, 255
	}
	for len(source) > 0 {
		block := [64]byte(source[:64])
		source = source[64:]
		w := digest.Expand(block)
		for at := range 16 {
			if w[at] != binary.BigEndian.Uint32(block[4*at:]) {
				t.Errorf("Expand(%x): word %d is %d", block, at, w[at])
			}
		}
		for at := 16; at < 64; at++ {
			x, y := w[at-15], w[at-2]
			small0 := turned(x, 7) ^ turned(x, 18) ^ down(x, 3)
			small1 := turned(y, 17) ^ turned(y, 19) ^ down(y, 10)
			if want := small1 + w[at-7] + small0 + w[at-16]; w[at] != want {
				t.Errorf("Expand(%x): word %d is %d, want %d", block, at, w[at], want)
			}
		}
	}
}

// compressed is P1.6, letter by letter, with the letters in a list.
func compressed(state [8]uint32, block [64]byte) [8]uint32 {
	w, l := digest.Expand(block), state
	k, _ := digest.Table()
	for at := range 64 {
		a, b, c, e, f, g := l[0], l[1], l[2], l[4], l[5], l[6]
		big1 := turned(e, 6) ^ turned(e, 11) ^ turned(e, 25)
		big0 := turned(a, 2) ^ turned(a, 13) ^ turned(a, 22)
		one := l[7] + big1 + (e&f ^ (0xffffffff^e)&g) + k[at] + w[at]
		two := big0 + (a&b ^ a&c ^ b&c)
		copy(l[1:], l[:7])
		l[0], l[4] = one+two, l[4]+one
	}
	for i := range l {
		l[i] += state[i]
	}
	return l
}

// P1.6: states and blocks of all kinds.
func TestCompress(t *testing.T) {
	source := text(96 * 20)
	for i := range 96 {
		source[i], source[96+i] = 0, 255
	}
	for len(source) > 0 {
		var state [8]uint32
		for i := range state {
			state[i] = binary.BigEndian.Uint32(source[4*i:])
		}
		block := [64]byte(source[32:96])
		source = source[96:]
		if got, want := digest.Compress(state, block), compressed(state, block); got != want {
			t.Errorf("Compress(%x, %x) = %x, want %x", state, block, got, want)
		}
	}
}

// P1.6: one step over a padded text makes its whole digest.
func TestCompressMakesDigest(t *testing.T) {
	block := [64]byte{'a', 'b', 'c', 128, 63: 24}
	_, first := digest.Table()
	var got []byte
	for _, word := range digest.Compress(first, block) {
		got = binary.BigEndian.AppendUint32(got, word)
	}
	if want := sha256.Sum256([]byte("abc")); !bytes.Equal(got, want[:]) {
		t.Errorf("the state behind abc is %x", got)
	}
}

// P1.7: every length over some blocks, and a long text.
func TestSum(t *testing.T) {
	long := text(100003)
	for n := range 400 {
		if got, want := digest.Sum(long[:n]), sha256.Sum256(long[:n]); got != api.Hash(want) {
			t.Errorf("Sum of %d bytes is %x, want %x", n, got, want)
		}
	}
	if digest.Sum(long) != api.Hash(sha256.Sum256(long)) {
		t.Error("Sum of a long text")
	}
	if h := digest.Sum(nil); digest.Hex(h[:]) != "e3b0c44298fc1c149afbf4c8996fb92427ae41e4649b934ca495991b7852b855" {
		t.Errorf("Sum of no list is %x", h)
	}
	if digest.Sum([]byte{}) != digest.Sum(nil) {
		t.Error("an empty list has another digest than none")
	}
	if h := digest.Sum([]byte("abc")); digest.Hex(h[:]) != "ba7816bf8f01cfea414140de5dae2223b00361a396177a9cb410ff61f20015ad" {
		t.Errorf("Sum of abc is %x", h)
	}
}

// P1.8: every width; a bad scale; the argument stays as it was.
func TestCutAndHash(t *testing.T) {
	whole := api.Hash(bytes.Repeat([]byte{255}, 32))
	for width := 1; width <= 32; width++ {
		sc := api.Scale{Block: 64, Width: width}
		got, e := digest.Cut(sc, whole)
		if e != api.OK || !bytes.Equal(got[:width], whole[:width]) || !bytes.Equal(got[width:], make([]byte, 32-width)) {
			t.Errorf("Cut(%v) = %x, %d", sc, got, e)
		}
		sum := sha256.Sum256([]byte("abc"))
		clear(sum[width:])
		if got, e := digest.Hash(sc, []byte("abc")); e != api.OK || got != api.Hash(sum) {
			t.Errorf("Hash(%v) = %x, %d, want %x", sc, got, e, sum)
		}
	}
	for _, sc := range bad {
		if got, e := digest.Cut(sc, whole); e != api.ErrScale || got != (api.Hash{}) {
			t.Errorf("Cut(%v) = %x, %d", sc, got, e)
		}
		if got, e := digest.Hash(sc, []byte("abc")); e != api.ErrScale || got != (api.Hash{}) {
			t.Errorf("Hash(%v) = %x, %d", sc, got, e)
		}
	}
	if got, _ := digest.Hash(api.Scale{Block: 64, Width: 2}, []byte("abc")); got != (api.Hash{186, 120}) {
		t.Errorf("Hash({64, 2}, abc) = %v", got)
	}
	if got, e := digest.Hash(own, nil); e != api.OK || got != digest.Sum(nil) {
		t.Errorf("Hash of nothing = %x, %d", got, e)
	}
}

// twins answers two unlike texts whose digests share their first width bytes, and no further one.
func twins(t *testing.T, width int) (a, b []byte) {
	seen := map[string][]byte{}
	for i := range 1 << 16 {
		a = []byte{byte(i), byte(i >> 8), 'x'}
		h := sha256.Sum256(a)
		if b, ok := seen[string(h[:width])]; ok && sha256.Sum256(b)[width] != h[width] {
			return a, b
		}
		seen[string(h[:width])] = a
	}
	t.Fatalf("no two texts share %d bytes", width)
	return nil, nil
}

// P1.9: texts that clash up to a width and not beyond it.
func TestClash(t *testing.T) {
	for width := 1; width <= 2; width++ {
		a, b := twins(t, width)
		for of := 1; of <= 32; of++ {
			sc := api.Scale{Block: 64, Width: of}
			if got := digest.Clash(sc, a, b); got != (of <= width) {
				t.Errorf("Clash(%v, %v, %v) = %v", sc, a, b, got)
			}
			if digest.Clash(sc, b, a) != digest.Clash(sc, a, b) {
				t.Errorf("Clash(%v) hangs on the order of the texts", sc)
			}
		}
		for _, sc := range bad {
			if digest.Clash(sc, a, b) {
				t.Errorf("Clash(%v) is true", sc)
			}
		}
	}
}

// P1.9: a text does not clash with itself.
func TestClashWithItself(t *testing.T) {
	for _, width := range []int{1, 32} {
		sc := api.Scale{Block: 64, Width: width}
		if digest.Clash(sc, []byte("abc"), []byte("abc")) || digest.Clash(sc, nil, []byte{}) || digest.Clash(sc, []byte{}, nil) || digest.Clash(sc, nil, nil) {
			t.Errorf("at %v a text clashes with itself", sc)
		}
	}
	if digest.Clash(api.Scale{Block: 64}, []byte("abc"), []byte("abc")) {
		t.Error("a text clashes with itself at no scale")
	}
}

// P1.10: every byte, there and back.
func TestHex(t *testing.T) {
	all := make([]byte, 256)
	for i := range all {
		all[i] = byte(i)
	}
	for _, b := range [][]byte{nil, {}, {0}, {255}, {10, 255}, all, text(1000)} {
		s := digest.Hex(b)
		if s != hex.EncodeToString(b) {
			t.Errorf("Hex(%v) = %q", b, s)
		}
		if back, e := digest.Unhex(s); e != api.OK || !bytes.Equal(back, b) {
			t.Errorf("Unhex(%q) = %v, %d", s, back, e)
		}
	}
}

// P1.10: every byte at either place of a pair; odd lengths; what stands behind a fault.
func TestUnhexRefused(t *testing.T) {
	for c := range 256 {
		want := api.ErrHex
		if strings.IndexByte("0123456789abcdef", byte(c)) >= 0 {
			want = api.OK
		}
		for _, s := range []string{string([]byte{byte(c), '0'}), string([]byte{'f', byte(c)}), string([]byte{'1', '2', byte(c), 'a'})} {
			if b, e := digest.Unhex(s); e != want || e != api.OK && b != nil {
				t.Errorf("Unhex(%q) = %v, %d", s, b, e)
			}
		}
	}
	for _, s := range []string{"0", "0af", "0AFF", "0x", "0x0", "00 ", " 00", "\u00e9", "00000"} {
		if b, e := digest.Unhex(s); e != api.ErrHex || b != nil {
			t.Errorf("Unhex(%q) = %v, %d", s, b, e)
		}
	}
	if b, e := digest.Unhex(""); e != api.OK || len(b) != 0 {
		t.Errorf("Unhex of the empty text = %v, %d", b, e)
	}
}

// P1.16, P0.4: no call writes into what it was handed, nor behind it.
func TestArgumentsStay(t *testing.T) {
	for n := range 200 {
		b, whole := roomy(text(n))
		before := bytes.Clone(whole)
		digest.Sum(b)
		digest.Hash(own, b)
		digest.Clash(api.Scale{Block: 64, Width: 1}, b, whole[1:1+n/2])
		digest.Hex(b)
		s := digest.New()
		s.Write(b)
		s.Write(b)
		s.Sum()
		if !bytes.Equal(whole, before) {
			t.Fatalf("a list of %d bytes, or the room behind it, was written to", n)
		}
	}
}

// P0.5: what a caller writes into an answer is in no later one.
func TestAnswersAreNewMemory(t *testing.T) {
	pad, _ := digest.Pad(3)
	bytesOf, _ := digest.Unhex("0aff")
	for _, b := range [][]byte{pad, bytesOf} {
		b = b[:cap(b)]
		for i := range b {
			b[i] = 77
		}
	}
	if again, _ := digest.Pad(3); again[0] != 128 || again[len(again)-1] != 24 || again[1] != 0 {
		t.Errorf("Pad(3) = %v", again)
	}
	if again, _ := digest.Unhex("0aff"); !bytes.Equal(again, []byte{10, 255}) {
		t.Errorf("Unhex = %v", again)
	}
}
