// Package requests takes requests apart, and lays out their answers.
package requests

import (
	"relay/api"
	"relay/refusals"
)

// The functions.
const (
	readCoils    = 1
	readSwitches = 2
	readHolders  = 3
	readInputs   = 4
	writeCoil    = 5
	writeHolder  = 6
	writeCoils   = 15
	writeHolders = 16
	maskHolder   = 22
	writeAndRead = 23
)

// Span is Count entries of a table from Address on.
type Span struct{ Address, Count int }

// Request is what a client asks for: that entries of a table are written, and then read.
// A span without entries asks for nothing.
type Request struct {
	Function byte
	Table    int
	Reads    Span
	Writes   Span
	// values are what the entries that are written become, but for
	// their bits that are in keep: these stay as they were.
	values []int
	keep   int
	// echo is what the answer repeats of the request; without it, the answer tells what was read.
	echo []byte
}

// Parse takes apart what stands behind a function. It asks no table:
// whether the entries are there is not said by the request.
func Parse(function byte, behind []byte) (Request, error) {
	r := Request{Function: function}
	if err := r.parse(behind); err != nil {
		return Request{}, err
	}
	return r, nil
}

func (r *Request) parse(behind []byte) error {
	switch r.Function {
	case readCoils:
		return r.parseRead(behind, api.Coils, api.MaxReadBits)
	case readSwitches:
		return r.parseRead(behind, api.Switches, api.MaxReadBits)
	case readHolders:
		return r.parseRead(behind, api.Holders, api.MaxReadWords)
	case readInputs:
		return r.parseRead(behind, api.Inputs, api.MaxReadWords)
	case writeCoil:
		return r.parseWriteCoil(behind)
	case writeHolder:
		return r.parseWriteHolder(behind)
	case writeCoils:
		return r.parseWriteCoils(behind)
	case writeHolders:
		return r.parseWriteHolders(behind)
	case maskHolder:
		return r.parseMaskHolder(behind)
	case writeAndRead:
		return r.parseWriteAndRead(behind)
	}
	return refusals.Wrap("no such function", r.Refuse(api.Function))
}

// Refuse gives the error by which this request is not done.
func (r Request) Refuse(exception byte) error {
	return &refusals.Refusal{Function: r.Function, Exception: exception}
}

// Written gives what the entries that are written become, if they are old by now.
func (r Request) Written(old []int) []int {
	written := make([]int, len(old))
	for i := range written {
		written[i] = old[i]&r.keep | r.values[i]&^r.keep
	}
	return written
}

// Answer lays out the answer. The entries that were read are packed as their table packs them.
func (r Request) Answer(packed []byte) []byte {
	answer := []byte{r.Function}
	if len(r.echo) > 0 {
		return append(answer, r.echo...)
	}
	answer = append(answer, byte(len(packed)))
	return append(answer, packed...)
}
