package frames

import (
	"bytes"

	"relay/api"
	"relay/words"
)

// Splitter takes frames out of one stream. Its zero value has had no bytes.
type Splitter struct {
	// An array and not a slice, so that no memory is shared with what comes in,
	// with what goes out, or with another splitter.
	held   [maxFrame]byte
	count  int
	broken bool
}

// Feed takes the next bytes of the stream and gives the frames that they make whole.
func (s *Splitter) Feed(chunk []byte) ([]api.Frame, api.Errno) {
	var whole []api.Frame
	for _, b := range chunk {
		if s.broken {
			break
		}
		s.take(b)
		if s.isWhole() {
			whole = append(whole, s.give())
		}
	}
	if s.broken {
		return whole, api.ErrFrame
	}
	return whole, api.OK
}

func (s *Splitter) take(b byte) {
	if !s.fits(b) {
		// Nothing that was held can become a frame any more.
		*s = Splitter{broken: true}
		return
	}
	s.held[s.count] = b
	s.count++
}

// fits says whether what is held can still begin a frame when b stands behind it.
func (s *Splitter) fits(b byte) bool {
	switch s.count {
	case zeroAt, zeroAt + 1:
		return b == 0
	case lengthAt:
		// A first byte can only be too high: whatever it is,
		// some length of minLength or more begins with it.
		return words.Join(b, 0) <= maxLength
	case lengthAt + 1:
		return within(words.Join(s.held[lengthAt], b), minLength, maxLength)
	}
	return true
}

func (s *Splitter) isWhole() bool {
	return s.count >= dataAt && s.count == unitAt+words.Join(s.held[lengthAt], s.held[lengthAt+1])
}

// give hands out the whole frame that is held, and forgets it.
func (s *Splitter) give() api.Frame {
	frame := api.Frame{
		Mark: words.Join(s.held[markAt], s.held[markAt+1]),
		Unit: int(s.held[unitAt]),
		Data: bytes.Clone(s.held[dataAt:s.count]),
	}
	*s = Splitter{}
	return frame
}
