package quality

import (
	"withy/api"
)

// report is how much was sent, and how much of it was got.
type report struct {
	sent, got int
}

// ring is the last reports. Behind the last place of its window comes the
// first again, so that the oldest report makes room for the newest. A place
// without a report stands as one of nothing, which adds nothing to a sum.
type ring struct {
	places       [api.MaxWindow]report
	window, next int
}

// add sets a report in the place of the oldest.
func (r *ring) add(n report) {
	r.places[r.next] = n
	r.next++
	if r.next >= r.window {
		r.next = 0
	}
}

// sum gives all reports as one.
func (r *ring) sum() report {
	var all report
	for _, n := range r.places {
		all.sent += n.sent
		all.got += n.got
	}
	return all
}
