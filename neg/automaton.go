package neg

import (
	"withy/api"
	"withy/fsm"
)

// automaton is that of layer 10 in one of its states, with the count of how
// often it asks before it gives up.
type automaton struct {
	state int
	tries int
	left  int
}

// step goes where an event leads, and gives what is to be done on the way.
func (a *automaton) step(event int) ([]int, api.Errno) {
	next, actions, e := fsm.Step(a.state, event)
	if e != api.OK {
		return nil, e
	}
	a.state = next
	return actions, api.OK
}

// isDown tells whether there is no line that a packet could come by.
func (a *automaton) isDown() bool {
	return a.state == api.StateInitial || a.state == api.StateStarting
}

// refill gives all tries back.
func (a *automaton) refill() {
	a.left = a.tries
}

// spend takes a try away. Some ways through the table ask anew without having
// refilled, so that none may be left.
func (a *automaton) spend() {
	a.left = max(a.left-1, 0)
}

// spendAll leaves no try.
func (a *automaton) spendAll() {
	a.left = 0
}

// isSpent tells whether no try is left.
func (a *automaton) isSpent() bool {
	return a.left == 0
}
