package relay_test

import (
	"bytes"
	"math"
	"testing"

	"relay/api"
	"relay/relay"
)

// layOut writes a frame as the document draws it, by other means than the program's.
func layOut(mark, unit int, data []byte) []byte {
	length := len(data) + 1
	head := []byte{byte(mark / 256), byte(mark % 256), 0, 0, byte(length / 256), byte(length % 256), byte(unit)}
	return append(head, data...)
}

// counting gives n bytes, no two neighbours alike.
func counting(n int) []byte {
	list := make([]byte, n)
	for i := range list {
		list[i] = byte(i*7 + 1)
	}
	return list
}

func TestFrameOfTheDocument(t *testing.T) {
	got, errno := relay.Frame(1, 17, []byte{3, 0, 0, 0, 2})
	if want := []byte{0, 1, 0, 0, 0, 6, 17, 3, 0, 0, 0, 2}; errno != api.OK || !bytes.Equal(got, want) {
		t.Errorf("P3: Frame(1, 17, 3 0 0 0 2) = %v, %d, want %v", got, errno, want)
	}
}

func TestFrameWithinBounds(t *testing.T) {
	for _, mark := range []int{0, 1, 255, 256, 258, 32768, 65535} {
		for _, unit := range []int{0, 1, 127, 128, 255} {
			for _, n := range []int{1, 2, 127, 128, 252, 253} {
				data := counting(n)
				got, errno := relay.Frame(mark, unit, data)
				if errno != api.OK || !bytes.Equal(got, layOut(mark, unit, data)) {
					t.Errorf("P3: Frame(%d, %d, %d bytes) = %v, %d", mark, unit, n, got, errno)
				}
			}
		}
	}
}

func TestFrameOutOfBounds(t *testing.T) {
	good := []byte{1}
	for _, c := range []struct {
		mark, unit int
		data       []byte
	}{
		{-1, 0, good}, {65536, 0, good}, {65536 * 2, 0, good}, {-65536, 0, good},
		{math.MinInt, 0, good}, {math.MaxInt, 0, good},
		{0, -1, good}, {0, 256, good}, {0, -256, good}, {0, 512, good},
		{0, math.MinInt, good}, {0, math.MaxInt, good},
		{0, 0, nil}, {0, 0, []byte{}}, {0, 0, make([]byte, 0, 9)},
		{0, 0, counting(254)}, {0, 0, counting(255)}, {0, 0, counting(256)}, {0, 0, counting(257)},
		{0, 0, counting(65536)}, {0, 0, counting(65537)}, {0, 0, counting(1 << 20)},
		{-1, 256, nil}, {math.MaxInt, math.MinInt, counting(254)},
	} {
		got, errno := relay.Frame(c.mark, c.unit, c.data)
		if errno != api.ErrFrame {
			t.Errorf("P3: Frame(%d, %d, %d bytes) = %d, want ErrFrame", c.mark, c.unit, len(c.data), errno)
		}
		if got != nil {
			t.Errorf("P1: Frame(%d, %d, %d bytes) = %v with an error, want nil", c.mark, c.unit, len(c.data), got)
		}
	}
}
