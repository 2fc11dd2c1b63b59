package names_test

import (
	"math/rand"
	"slices"
	"strings"
	"testing"

	"torrent/api"
)

// write is a list of strings as bytes, so that the order of the bytes is the order of the lists, and that one list begins with another just if its bytes do: 1 ahead of each string and ahead of each of its bytes, 0 behind the string.
func write(p []string) string {
	var b []byte
	for _, s := range p {
		b = append(b, 1)
		for i := range len(s) {
			b = append(b, 1, s[i])
		}
		b = append(b, 0)
	}
	return string(b)
}

// lists are all lists of up to most of these strings.
func lists(parts []string, most int) [][]string {
	l := [][]string{nil}
	for from, n := 0, 0; n < most; n++ {
		for to := len(l); from < to; from++ {
			for _, s := range parts {
				l = append(l, append(slices.Clone(l[from]), s))
			}
		}
	}
	return l
}

// texts are all strings of up to most signs, each of them one of these strings.
func texts(signs []string, most int) []string {
	var l []string
	for _, p := range lists(signs, most) {
		l = append(l, strings.Join(p, ""))
	}
	return l
}

// times is a list that has one string n times.
func times(n int, s string) []string { return slices.Repeat([]string{s}, n) }

// mixed is a list of up to most strings that are taken out of few, so that lists often begin alike.
func mixed(r *rand.Rand, parts []string, most int) []string {
	p := make([]string, r.Intn(most+1))
	for i := range p {
		p[i] = parts[r.Intn(len(parts))]
	}
	return p
}

// none fails the test unless a call has answered that error, and nothing else.
func none[T any](t *testing.T, call string, of any, got []T, e, want api.Errno) {
	t.Helper()
	if e != want || len(got) != 0 {
		t.Errorf("%s(%.200q) = %v, %d, want no list and %d", call, of, got, e, want)
	}
}
