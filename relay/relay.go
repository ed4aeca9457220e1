// Package relay: a bank of coils and registers that many clients ask at once: see DOC.md.
package relay

import (
	"errors"

	"relay/api"
	"relay/banks"
	"relay/frames"
	"relay/refusals"
	"relay/turns"
)

// Splitter takes frames out of a stream that comes in pieces.
type Splitter struct{ stream frames.Splitter }

// Bank keeps tables, and answers.
type Bank struct{ store *banks.Bank }

// Frame gives a frame (P3).
func Frame(mark int, unit int, data []byte) ([]byte, api.Errno) {
	return frames.Encode(mark, unit, data)
}

// NewSplitter makes one that has had no bytes (P4).
func NewSplitter() *Splitter { return &Splitter{} }

// Feed takes bytes (P4).
func (s *Splitter) Feed(chunk []byte) ([]api.Frame, api.Errno) {
	if s == nil {
		// No splitter has no stream, and no call may panic.
		return nil, api.ErrFrame
	}
	return s.stream.Feed(chunk)
}

// New makes a bank (P5).
func New(c api.Config) (*Bank, api.Errno) {
	store, errno := banks.New(c)
	if errno != api.OK {
		return nil, errno
	}
	return &Bank{store: store}, api.OK
}

// kept gives what the bank keeps. Where New made none there are
// no tables and no clients, since no call may panic.
func (b *Bank) kept() *banks.Bank {
	if b == nil || b.store == nil {
		return &banks.Bank{}
	}
	return b.store
}

// Set sets entries (P6).
func (b *Bank) Set(table int, address int, values []int) api.Errno {
	return b.kept().Set(table, address, values)
}

// Get gives entries (P6).
func (b *Bank) Get(table int, address int, count int) ([]int, api.Errno) {
	return b.kept().Get(table, address, count)
}

// Answer answers a request (P7).
func (b *Bank) Answer(client int, request []byte) ([]byte, api.Errno) {
	if !b.kept().HasClient(client) {
		return nil, api.ErrClient
	}
	if len(request) < 1 || len(request) > api.MaxData {
		return nil, api.ErrFrame
	}
	return b.answer(client, request), api.OK
}

// answer does a request that has bytes, of a client that the bank has.
func (b *Bank) answer(client int, request []byte) []byte {
	done, err := b.kept().Do(client, request[0], request[1:])
	var refusal *refusals.Refusal
	if errors.As(err, &refusal) {
		return refusal.Answer()
	}
	return done
}

// Serve serves connections (P8, P9).
func (b *Bank) Serve(conns []api.Conn, picks []int, stop int) ([][]byte, api.Errno) {
	served, errno := b.kept().Admit(conns)
	if errno != api.OK {
		return nil, errno
	}
	answers := make([][]byte, len(conns))
	copy(answers, turns.Serve(served, picks, stop, b.answer))
	return answers, api.OK
}
