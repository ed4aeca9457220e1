// Package frames makes frames and takes them out of streams that come in pieces.
package frames

import "relay/api"

// Where the parts of a frame begin.
const (
	markAt   = 0
	zeroAt   = 2
	lengthAt = 4
	unitAt   = 6
	dataAt   = 7
)

// The length counts the unit too, so it is one more than the bytes of the data.
const (
	minLength = 2
	maxLength = api.MaxData + 1
	maxFrame  = unitAt + maxLength
)

const (
	maxByte = 255
	maxWord = 65535
)

// Encode gives the frame with this mark, unit and data.
func Encode(mark int, unit int, data []byte) ([]byte, api.Errno) {
	length := len(data) + 1
	if !within(mark, 0, maxWord) || !within(unit, 0, maxByte) || !within(length, minLength, maxLength) {
		return nil, api.ErrFrame
	}
	frame := make([]byte, 0, unitAt+length)
	frame = appendWord(frame, mark)
	frame = appendWord(frame, 0)
	frame = appendWord(frame, length)
	frame = append(frame, byte(unit))
	return append(frame, data...), api.OK
}

func within(n, lo, hi int) bool { return lo <= n && n <= hi }

func appendWord(list []byte, w int) []byte { return append(list, byte(w>>8), byte(w)) }

func word(high, low byte) int { return int(high)<<8 | int(low) }
