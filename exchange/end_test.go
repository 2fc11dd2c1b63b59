package exchange_test

import (
	"fmt"
	"math/rand"
	"strings"
	"testing"

	"torrent/api"
	"torrent/exchange"
)

// honest is a peer that no random call names.
const honest = 1000

// P23.11: a true peer gets a part whenever nothing is out at it, and when all its answers were taken the text is there, whatever others do meanwhile.
func TestEnds(t *testing.T) {
	for seed := range int64(400) {
		rnd := rand.New(rand.NewSource(seed))
		sc := []api.Scale{own, tiny}[seed%2]
		text := some([]int{1, 64, 65, 150, 300, 640}[rnd.Intn(6)])
		h := sum(sc, text)
		others := [][]byte{changed(text, 0), some(77)}
		if rnd.Intn(2) == 0 {
			others = append(others, text)
		}
		run := &ending{Fetch: fetch(t, sc, h), player: player{rnd, sc, others, newPlain(sc, h)}, text: text}
		if e := run.Size(honest, len(text)); e != api.OK {
			t.Fatalf("P23.4: %d", e)
		}
		if fault := run.play(); fault != "" {
			t.Errorf("P23.11: seed %d: %s", seed, fault)
		}
		got, there := run.Info()
		if !there || sum(sc, got) != h || sc == own && string(got) != string(text) {
			t.Errorf("P23.10, P23.11: seed %d: Info = %d bytes, %v", seed, len(got), there)
		}
	}
}

// ending is a fetch with a true peer and with others that do anything.
type ending struct {
	*exchange.Fetch
	player
	text  []byte
	taken int
	out   bool // at the true peer
	part  int
	since int
}

// play lets all of them do what they do until the text is there; what is wrong, if something is.
func (r *ending) play() string {
	parts := (len(r.text)-1)/r.sc.Block + 1
	for range 40 * parts {
		if fault := r.others(); fault != "" {
			return fault
		}
		if _, there := r.Info(); there {
			return ""
		}
		now := r.Intn(30)
		part, named, e := r.Next(honest, now)
		if named == r.out || e != api.OK {
			return fmt.Sprintf("Next = %d, %v, %d, and a part is out: %v", part, named, e, r.out)
		}
		if named {
			r.out, r.part, r.since = true, part, now
		}
		if r.Intn(3) == 0 {
			continue // it takes its time
		}
		if fault := r.answer(parts); fault != "" {
			return fault
		}
	}
	return fmt.Sprintf("it does not end: %d of %d answers were taken", r.taken, parts)
}

// others makes some calls that do not name the true peer; only a late answer is its own.
func (r *ending) others() string {
	for range r.Intn(6) {
		c := r.call()
		got := do(r.Fetch, c)
		do(r.plain, c)
		if c.name == "Expire" && r.out && c.now-r.since >= api.Patience {
			r.out = false
			if !strings.Contains(got.text, fmt.Sprint(honest)) {
				return fmt.Sprintf("%v tells %q, and a part is out since %d", c, got.text, r.since)
			}
		}
	}
	return ""
}

// answer lets the true peer answer what is out at it.
func (r *ending) answer(parts int) string {
	b, e := exchange.Part(r.sc, r.text, r.part)
	if e != api.OK {
		return fmt.Sprintf("Part(%d) of the text: %d", r.part, e)
	}
	done, e := r.Take(honest, r.part, len(r.text), b)
	r.out = false
	r.taken++
	if e != api.OK || done != (r.taken == parts) {
		return fmt.Sprintf("%d of %d answers were taken: %v, %d", r.taken, parts, done, e)
	}
	return ""
}
