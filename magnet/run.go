package magnet

import (
	"strconv"
	"strings"

	"torrent/api"
)

// isStrayRun tells whether a run is empty or has places where no file can be.
func isStrayRun(run api.Range) bool {
	return run.From < 0 || run.Len < 1 || run.From > api.MaxFiles-run.Len
}

// areApart tells whether runs of places of files rise, with at least one place between each two.
func areApart(runs []api.Range) bool {
	for i := 1; i < len(runs); i++ {
		if runs[i].From <= runs[i-1].From+runs[i-1].Len {
			return false
		}
	}
	return true
}

// has tells whether a run, of whatever numbers, has a place.
func has(run api.Range, place int) bool {
	// How far one int is behind another is always within uint.
	return run.From <= place && run.Len > 0 && uint(place)-uint(run.From) < uint(run.Len)
}

func runsText(runs []api.Range) string {
	texts := make([]string, len(runs))
	for i, run := range runs {
		texts[i] = runText(run)
	}
	return strings.Join(texts, ",")
}

func runText(run api.Range) string {
	first := strconv.Itoa(run.From)
	if run.Len == 1 {
		return first
	}
	return first + "-" + strconv.Itoa(run.From+run.Len-1)
}

// readRuns reads runs, in whatever order; false, if they are not written so.
func readRuns(text string) ([]api.Range, bool) {
	var runs []api.Range
	for _, part := range parts(text, ',') {
		run, ok := readRun(part)
		if !ok {
			return nil, false
		}
		runs = append(runs, run)
	}
	return runs, true
}

func readRun(text string) (api.Range, bool) {
	head, tail, two := strings.Cut(text, "-")
	first, ok := readPlace(head)
	if !ok || !two {
		return api.Range{From: first, Len: 1}, ok
	}
	last, ok := readPlace(tail)
	return api.Range{From: first, Len: last - first + 1}, ok && last > first
}

// readPlace reads the place of a file; false, if it is none or there is a shorter way to write it.
func readPlace(text string) (int, bool) {
	n, err := strconv.Atoi(text)
	return n, err == nil && n >= 0 && n < api.MaxFiles && strconv.Itoa(n) == text
}
