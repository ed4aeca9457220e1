// Package requests takes requests apart, and lays out their answers.
package requests

import (
	"relay/api"
	"relay/refusals"
	"relay/words"
)

// The functions.
const (
	readCoils    = 1
	readSwitches = 2
	readHolders  = 3
	readInputs   = 4
)

// Request is what a client asks for: Count entries of a table from Address on.
type Request struct {
	Function byte
	Table    int
	Address  int
	Count    int
}

// Parse takes apart what stands behind a function. It asks no table:
// whether the entries are there is not said by the request.
func Parse(function byte, behind []byte) (Request, error) {
	r := Request{Function: function}
	most := 0
	switch function {
	case readCoils:
		r.Table, most = api.Coils, api.MaxReadBits
	case readSwitches:
		r.Table, most = api.Switches, api.MaxReadBits
	case readHolders:
		r.Table, most = api.Holders, api.MaxReadWords
	case readInputs:
		r.Table, most = api.Inputs, api.MaxReadWords
	default:
		return Request{}, refusals.Wrap("no such function", r.Refuse(api.Function))
	}
	if len(behind) != 2*words.Size {
		return Request{}, refusals.Wrap("too few or too many bytes", r.Refuse(api.Value))
	}
	r.Address = words.Join(behind[0], behind[1])
	r.Count = words.Join(behind[2], behind[3])
	if r.Count < 1 || r.Count > most {
		return Request{}, refusals.Wrap("too few or too many entries", r.Refuse(api.Value))
	}
	return r, nil
}

// Refuse gives the error by which this request is not done.
func (r Request) Refuse(exception byte) error {
	return &refusals.Refusal{Function: r.Function, Exception: exception}
}

// Answer lays out the answer that tells the entries, which are packed as their table packs them.
func (r Request) Answer(packed []byte) []byte {
	answer := make([]byte, 0, 2+len(packed))
	answer = append(answer, r.Function, byte(len(packed)))
	return append(answer, packed...)
}
