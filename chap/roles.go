package chap

import (
	"strings"

	"withy/api"
	"withy/digest"
)

const (
	// challengeId is the id of the challenge: there is but one, however often
	// it is sent.
	challengeId = 1
	// mostChallenge is how many bytes a challenge has at most.
	mostChallenge = 255
)

// asker is the role that has the other side prove itself. Its challenge is
// empty till it is started: a challenge never is.
type asker struct {
	expect    string
	challenge string
	left      int
	proved    bool
}

// prover is the role that proves itself to the other side.
type prover struct {
	secret string
	taken  bool
}

// start has the other side be asked by a challenge.
func (a *asker) start(challenge string) {
	a.challenge = strings.Clone(challenge)
}

// isStarted tells whether the other side has been asked.
func (a *asker) isStarted() bool {
	return a.challenge != ""
}

// awaits tells whether a response of an id answers the challenge.
func (a *asker) awaits(id int) bool {
	return a.isStarted() && id == challengeId
}

// isConvinced tells whether the other side has proved itself, by the value of
// its response if not ahead of it: a response may come twice where a challenge
// was sent twice, and no second one undoes the first.
func (a *asker) isConvinced(value string) bool {
	a.proved = a.proved || value == digest.Chap(challengeId, a.expect, a.challenge)
	return a.proved
}

// spend takes a try away.
func (a *asker) spend() {
	a.left--
}

// isSpent tells whether no try is left.
func (a *asker) isSpent() bool {
	return a.left <= 0
}

// answer gives the value that answers a challenge.
func (r *prover) answer(id int, challenge string) string {
	return digest.Chap(id, r.secret, challenge)
}

// mayBeSecret tells whether s has the size of a secret.
func mayBeSecret(s string) bool {
	return 1 <= len(s) && len(s) <= api.MaxSecret
}

// mayBeChallenge tells whether s has the size of a challenge.
func mayBeChallenge(s string) bool {
	return 1 <= len(s) && len(s) <= mostChallenge
}
