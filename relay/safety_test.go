package relay_test

import (
	"bytes"
	"math"
	"math/rand"
	"runtime"
	"testing"

	"relay/api"
	"relay/relay"
)

func TestFrameAtAllNumbers(t *testing.T) {
	numbers := []int{math.MinInt, math.MinInt + 1, -65537, -256, -1, 0, 1, 255, 256, 65535, 65536, math.MaxInt - 1, math.MaxInt}
	for _, mark := range numbers {
		for _, unit := range numbers {
			for _, n := range []int{0, 1, 253, 254, 65535, 65536} {
				got, errno := relay.Frame(mark, unit, make([]byte, n))
				if errno != api.OK && (errno != api.ErrFrame || got != nil) {
					t.Errorf("P1: Frame(%d, %d, %d bytes) = %v, %d", mark, unit, n, got, errno)
				}
			}
		}
	}
}

func TestFeedAtAllLists(t *testing.T) {
	r := rand.New(rand.NewSource(4))
	for range 2000 {
		s := relay.NewSplitter()
		broken := false
		for range 5 {
			chunk := make([]byte, r.Intn(300))
			r.Read(chunk)
			if r.Intn(2) == 0 {
				clear(chunk[:len(chunk)/2])
			}
			got, errno := s.Feed(chunk)
			if broken && (errno != api.ErrFrame || got != nil) {
				t.Fatalf("P4: Feed after a break = %v, %d", got, errno)
			}
			if errno != api.OK && len(got) == 0 && got != nil {
				t.Fatal("P1: Feed gave a list without entries with an error, want nil")
			}
			broken = broken || errno != api.OK
		}
	}
}

func TestFeedLongStream(t *testing.T) {
	const many = 20000
	_, one := aFrame(1, 2, 3, 4)
	stream := bytes.Repeat(one, many)
	s := relay.NewSplitter()
	if got, errno := s.Feed(stream); errno != api.OK || len(got) != many {
		t.Errorf("P4: %d frames, %d, want %d", len(got), errno, many)
	}
	if got, errno := s.Feed(append(stream, 0, 0, 9)); errno != api.ErrFrame || len(got) != many {
		t.Errorf("P4: %d frames, %d, want %d and ErrFrame", len(got), errno, many)
	}
}

func TestFeedWithoutSplitter(t *testing.T) {
	var none *relay.Splitter
	_, one := aFrame(1, 2, 3)
	wantFeed(t, none, nil, api.ErrFrame)
	wantFeed(t, none, one, api.ErrFrame)
}

func TestNothingGoesOn(t *testing.T) {
	_, one := aFrame(1, 2, 3)
	before := runtime.NumGoroutine()
	for range 100 {
		relay.Frame(1, 2, one)
		relay.NewSplitter().Feed(one[:5])
	}
	if after := runtime.NumGoroutine(); after > before {
		t.Errorf("P1: %d goroutines, %d before the calls", after, before)
	}
}
