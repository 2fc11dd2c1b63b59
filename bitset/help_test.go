package bitset_test

import (
	"math/rand"
	"slices"
	"strconv"
	"strings"
	"testing"

	"torrent/api"
	"torrent/bitset"
)

// pack writes a text of the digits 0 and 1 as a bitfield: eight digits are the number that a byte is.
func pack(bits string) []byte {
	var b []byte
	for bits += strings.Repeat("0", (8-len(bits)%8)%8); len(bits) > 0; bits = bits[8:] {
		x, err := strconv.ParseUint(bits[:8], 2, 8)
		if err != nil {
			panic(err)
		}
		b = append(b, byte(x))
	}
	return b
}

// places are the places at which a text of digits has that digit.
func places(bits string, digit byte) []int {
	var l []int
	for i := range len(bits) {
		if bits[i] == digit {
			l = append(l, i)
		}
	}
	return l
}

// texts are texts of the digits 0 and 1: all of up to 12 digits, and long ones of several kinds up to the limit.
func texts() []string {
	l := []string{""}
	for from, n := 0, 1; n <= 12; n++ {
		to := len(l)
		for ; from < to; from++ {
			l = append(l, l[from]+"0", l[from]+"1")
		}
	}
	return append(l, longs()...)
}

func longs() []string {
	var l []string
	r := rand.New(rand.NewSource(4))
	for _, n := range []int{13, 15, 16, 17, 23, 24, 25, 100, 1000, api.MaxBits - 9, api.MaxBits - 8, api.MaxBits - 7, api.MaxBits - 1, api.MaxBits} {
		mixed := make([]byte, n)
		for i := range mixed {
			mixed[i] = "0001"[r.Intn(4)]
		}
		l = append(l, string(mixed), strings.Repeat("0", n), strings.Repeat("1", n), "1"+strings.Repeat("0", n-2)+"1", "0"+strings.Repeat("1", n-2)+"0")
	}
	return l
}

// wrong is a pair of a number of bits and bytes that are not a bitfield of it, with what Check says of it.
type wrong struct {
	n int
	b []byte
	e api.Errno
}

func wrongs() []wrong {
	l := []wrong{
		{-1, nil, api.ErrBits}, {-1, []byte{255}, api.ErrBits}, {-8, []byte{1}, api.ErrBits}, {-1 << 63, nil, api.ErrBits}, {1<<63 - 1, nil, api.ErrBits},
		{1<<63 - 7, []byte{0}, api.ErrBits}, {api.MaxBits + 1, make([]byte, 8193), api.ErrBits}, {api.MaxBits + 1, make([]byte, 8192), api.ErrBits},
		{0, []byte{0}, api.ErrBytes}, {0, []byte{255}, api.ErrBytes}, {1, nil, api.ErrBytes}, {8, nil, api.ErrBytes}, {8, []byte{0, 0}, api.ErrBytes}, {9, []byte{255}, api.ErrBytes},
		{9, []byte{255, 128, 0}, api.ErrBytes}, {9, []byte{255, 255, 255}, api.ErrBytes}, {1, []byte{255, 255}, api.ErrBytes},
		{api.MaxBits, make([]byte, 8191), api.ErrBytes}, {api.MaxBits, make([]byte, 8193), api.ErrBytes}, {api.MaxBits - 8, make([]byte, 8192), api.ErrBytes},
	}
	for n := 1; n <= 24; n++ {
		for i := n; i%8 != 0; i++ {
			l = append(l, wrong{n, pack(strings.Repeat("0", i) + "1"), api.ErrSpare}, wrong{n, pack(strings.Repeat("1", i+1)), api.ErrSpare})
		}
	}
	last := make([]byte, 8192)
	last[8191] = 1
	return append(l, wrong{api.MaxBits - 1, last, api.ErrSpare})
}

// same fails the test unless a call has answered just these bytes, without an error.
func same(t *testing.T, call string, got []byte, e api.Errno, want []byte) {
	t.Helper()
	if e != api.OK || !slices.Equal(got, want) {
		t.Fatalf("%s = %s, %d, want %s", call, short(got), e, short(want))
	}
}

// none fails the test unless a call has answered that error, and nothing else.
func none[T any](t *testing.T, call string, got []T, e, want api.Errno) {
	t.Helper()
	if e != want || len(got) != 0 {
		t.Errorf("%s = %v, %d, want no list and %d", call, got, e, want)
	}
}

func short(b []byte) string {
	var s []string
	for _, x := range b[:min(len(b), 20)] {
		s = append(s, strconv.Itoa(int(x)))
	}
	return strconv.Itoa(len(b)) + " bytes: " + strings.Join(s, " ")
}

func call(name string, n int, b []byte) string {
	return name + "(" + strconv.Itoa(n) + ", " + short(b) + ")"
}

// listed ranges over a walk to its end.
func listed(n int, b []byte) []int {
	var l []int
	for i := range bitset.Walk(n, b) {
		l = append(l, i)
	}
	return l
}
