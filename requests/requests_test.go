package requests_test

import (
	"errors"
	"testing"

	"relay/api"
	"relay/refusals"
	"relay/requests"
)

// TestMostWords: the bounds of the words hold by themselves, and not
// only since a request with more of them has too many bytes for a frame.
func TestMostWords(t *testing.T) {
	for _, c := range []struct {
		function byte
		head     []byte
		most     int
	}{
		{16, []byte{0, 0}, api.MaxWriteWords},
		{23, []byte{0, 0, 0, 1, 0, 0}, api.MaxBothWords},
	} {
		for count := 1; count <= 127; count++ {
			behind := append(append([]byte{}, c.head...), 0, byte(count), byte(2*count))
			behind = append(behind, make([]byte, 2*count)...)
			_, err := requests.Parse(c.function, behind)
			var refusal *refusals.Refusal
			isRefused := errors.As(err, &refusal) && *refusal == refusals.Refusal{Function: c.function, Exception: api.Value}
			if isRefused != (count > c.most) {
				t.Errorf("P7: function %d with %d words: %v", c.function, count, err)
			}
		}
	}
}
