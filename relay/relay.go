// Package relay: a bank of coils and registers that many clients ask at once: see DOC.md.
package relay

import (
	"relay/api"
	"relay/frames"
)

// Splitter takes frames out of a stream that comes in pieces.
type Splitter struct{ stream frames.Splitter }

// Bank keeps tables, and answers.
type Bank struct{}

// Frame gives a frame (P3).
func Frame(mark int, unit int, data []byte) ([]byte, api.Errno) {
	return frames.Encode(mark, unit, data)
}

// NewSplitter makes one that has had no bytes (P4).
func NewSplitter() *Splitter { return &Splitter{} }

// Feed takes bytes (P4).
func (s *Splitter) Feed(chunk []byte) ([]api.Frame, api.Errno) {
	if s == nil {
		// No splitter has no stream, and no call may panic.
		return nil, api.ErrFrame
	}
	return s.stream.Feed(chunk)
}

// New makes a bank (P5).
func New(c api.Config) (*Bank, api.Errno) { return nil, api.OK }

// Set sets entries (P6).
func (b *Bank) Set(table int, address int, values []int) api.Errno { return api.OK }

// Get gives entries (P6).
func (b *Bank) Get(table int, address int, count int) ([]int, api.Errno) { return nil, api.OK }

// Answer answers a request (P7).
func (b *Bank) Answer(client int, request []byte) ([]byte, api.Errno) { return nil, api.OK }

// Serve serves connections (P8, P9).
func (b *Bank) Serve(conns []api.Conn, picks []int, stop int) ([][]byte, api.Errno) {
	return nil, api.OK
}
