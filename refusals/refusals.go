// Package refusals holds the errors by which requests are not done.
package refusals

import "strconv"

// notDone is the bit of a function by which an answer tells that its request is not done.
const notDone = 0x80

// Refusal is what keeps a request from being done.
type Refusal struct {
	Function  byte
	Exception byte
}

func (r *Refusal) Error() string {
	return "function " + strconv.Itoa(int(r.Function)) + ": exception " + strconv.Itoa(int(r.Exception))
}

// Answer is how a client is told.
func (r *Refusal) Answer() []byte { return []byte{r.Function | notDone, r.Exception} }

// layered is an error with what the layer that passed it on has to say.
type layered struct {
	says  string
	cause error
}

func (l *layered) Error() string { return l.says + ": " + l.cause.Error() }

func (l *layered) Unwrap() error { return l.cause }

// Wrap lays what a layer says around an error from below; without an error there is none.
func Wrap(says string, cause error) error {
	if cause == nil {
		return nil
	}
	return &layered{says: says, cause: cause}
}
