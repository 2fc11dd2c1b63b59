package vault

// commit is what a good head leads to.
type commit struct {
	number int
	values map[string]chain
	free   []int // the places that the head does not use, rising
}

// commitIn is what the head in a sector of the area leads to, if it is good.
func (a area) commitIn(at int) (commit, bool) {
	h, there := a.headIn(at)
	if !there {
		return commit{}, false
	}
	r := reader{area: a, met: make([]bool, a.places())}
	directory, right := r.follow(h.directory)
	if !right {
		return commit{}, false
	}
	entries, right := entriesOf(directory.data)
	if !right {
		return commit{}, false
	}
	values := make(map[string]chain, len(entries))
	for _, x := range entries {
		c, right := r.follow(x.value)
		if !right {
			return commit{}, false
		}
		values[x.key] = c
	}
	return a.committed(h.number, values, directory), true
}

// committed is the commit of these chains.
func (a area) committed(number int, values map[string]chain, directory chain) commit {
	used := make([]bool, a.places())
	use := func(c chain) {
		for _, place := range c.places {
			used[place] = true
		}
	}
	use(directory)
	for _, c := range values {
		use(c)
	}
	next := commit{number: number, values: values}
	for place := range used {
		if !used[place] {
			next.free = append(next.free, place)
		}
	}
	return next
}
