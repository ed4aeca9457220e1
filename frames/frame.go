// Package frames makes frames and takes them out of streams that come in pieces.
package frames

import (
	"relay/api"
	"relay/words"
)

// Where the parts of a frame begin.
const (
	markAt   = 0
	zeroAt   = 2
	lengthAt = 4
	unitAt   = 6
	dataAt   = 7
)

// The length counts the unit too, so it is one more than the bytes of the data.
const (
	minLength = 2
	maxLength = api.MaxData + 1
	maxFrame  = unitAt + maxLength
)

const maxByte = 255

// Encode gives the frame with this mark, unit and data.
func Encode(mark int, unit int, data []byte) ([]byte, api.Errno) {
	length := len(data) + 1
	if !within(mark, 0, words.Max) || !within(unit, 0, maxByte) || !within(length, minLength, maxLength) {
		return nil, api.ErrFrame
	}
	frame := make([]byte, 0, unitAt+length)
	frame = words.Append(frame, mark)
	frame = words.Append(frame, 0)
	frame = words.Append(frame, length)
	frame = append(frame, byte(unit))
	return append(frame, data...), api.OK
}

func within(n, lo, hi int) bool { return lo <= n && n <= hi }
