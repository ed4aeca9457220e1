package relay_test

import (
	"bytes"
	"math/rand"
	"testing"

	"relay/api"
	"relay/relay"
)

func sameFrames(a, b []api.Frame) bool {
	same := len(a) == len(b)
	for i := 0; same && i < len(a); i++ {
		same = a[i].Mark == b[i].Mark && a[i].Unit == b[i].Unit && bytes.Equal(a[i].Data, b[i].Data)
	}
	return same
}

func wantFeed(t *testing.T, s *relay.Splitter, chunk []byte, errno api.Errno, want ...api.Frame) {
	t.Helper()
	got, e := s.Feed(chunk)
	if e != errno || !sameFrames(got, want) {
		t.Errorf("P4: Feed(%v) = %v, %d, want %v, %d", chunk, got, e, want, errno)
	}
	if e != api.OK && len(got) == 0 && got != nil {
		t.Errorf("P1: Feed(%v) = a list without entries with an error, want nil", chunk)
	}
}

// aFrame gives a frame and its bytes.
func aFrame(mark, unit int, data ...byte) (api.Frame, []byte) {
	return api.Frame{Mark: mark, Unit: unit, Data: data}, layOut(mark, unit, data)
}

func TestFeedOfTheDocument(t *testing.T) {
	frame, stream := aFrame(1, 17, 3, 0, 0, 0, 2)
	for cut := range stream {
		s := relay.NewSplitter()
		wantFeed(t, s, stream[:cut], api.OK)
		wantFeed(t, s, stream[cut:], api.OK, frame)
	}
}

func TestFeedByteByByte(t *testing.T) {
	short, one := aFrame(65535, 255, 0)
	long, two := aFrame(256, 0, counting(api.MaxData)...)
	s := relay.NewSplitter()
	for range 3 {
		for i := range len(one) - 1 {
			wantFeed(t, s, one[i:i+1], api.OK)
		}
		wantFeed(t, s, one[len(one)-1:], api.OK, short)
		for i := range len(two) - 1 {
			wantFeed(t, s, two[i:i+1], api.OK)
		}
		wantFeed(t, s, two[len(two)-1:], api.OK, long)
	}
}

func TestFeedWithoutBytes(t *testing.T) {
	frame, stream := aFrame(1, 2, 3)
	s := relay.NewSplitter()
	wantFeed(t, s, nil, api.OK)
	wantFeed(t, s, stream[:4], api.OK)
	wantFeed(t, s, nil, api.OK)
	wantFeed(t, s, []byte{}, api.OK)
	wantFeed(t, s, stream[4:], api.OK, frame)
	wantFeed(t, s, nil, api.OK)
}

func TestFeedSeveralFramesAtOnce(t *testing.T) {
	a, one := aFrame(7, 8, 9)
	b, two := aFrame(7, 8, counting(100)...)
	stream := bytes.Join([][]byte{one, two, one, two[:50]}, nil)
	s := relay.NewSplitter()
	wantFeed(t, s, stream, api.OK, a, b, a)
	wantFeed(t, s, append(bytes.Clone(two[50:]), one...), api.OK, b, a)
}

func TestFeedOfWhatFrameGives(t *testing.T) {
	for n := 1; n <= api.MaxData; n++ {
		data := counting(n)
		stream, errno := relay.Frame(n*250, n, data)
		if errno != api.OK {
			t.Fatalf("P3: Frame of %d bytes = %d", n, errno)
		}
		wantFeed(t, relay.NewSplitter(), stream, api.OK, api.Frame{Mark: n * 250, Unit: n, Data: data})
	}
}

// Each of these breaks with its last byte, and not with one ahead of it.
func breaking() [][]byte {
	return [][]byte{
		{0, 1, 1}, {0, 1, 255}, {9, 9, 128}, {0, 1, 0, 1}, {255, 255, 0, 255},
		{0, 1, 0, 0, 1}, {0, 1, 0, 0, 2}, {0, 1, 0, 0, 255},
		{0, 1, 0, 0, 0, 0}, {0, 1, 0, 0, 0, 1}, {0, 1, 0, 0, 0, 255},
	}
}

func TestFeedBreaksAtTheByte(t *testing.T) {
	frame, ahead := aFrame(5, 6, 7, 8)
	for _, bad := range breaking() {
		last := len(bad) - 1
		s := relay.NewSplitter()
		wantFeed(t, s, bad[:last], api.OK)
		wantFeed(t, s, bad[last:], api.ErrFrame)

		s = relay.NewSplitter()
		wantFeed(t, s, append(bytes.Clone(ahead), bad[:last]...), api.OK, frame)
		wantFeed(t, s, bad[last:], api.ErrFrame)

		s = relay.NewSplitter()
		wantFeed(t, s, bytes.Join([][]byte{ahead, ahead, bad, ahead}, nil), api.ErrFrame, frame, frame)
	}
}

func TestFeedNothingAfterBreak(t *testing.T) {
	_, stream := aFrame(5, 6, 7, 8)
	for _, bad := range breaking() {
		s := relay.NewSplitter()
		wantFeed(t, s, bad, api.ErrFrame)
		// The rest of the frame that was begun, and whole ones, come too late.
		for _, late := range [][]byte{nil, {0}, {0, 0, 0, 2, 1, 1}, {}, stream, stream[:3], stream[3:], bad, make([]byte, 1000)} {
			wantFeed(t, s, late, api.ErrFrame)
		}
	}
}

func TestFeedLengthsAtTheBounds(t *testing.T) {
	for length := range 65536 {
		s := relay.NewSplitter()
		_, errno := s.Feed([]byte{0, 0, 0, 0, byte(length >> 8), byte(length)})
		good := 2 <= length && length <= api.MaxData+1
		if (errno == api.OK) != good || errno != api.OK && errno != api.ErrFrame {
			t.Errorf("P4: a length of %d: %d", length, errno)
		}
	}
}

// expected finds by places in the whole stream what a splitter must find byte by byte:
// the frames, where each of them ends, and the place of the byte that breaks it (or its end).
func expected(stream []byte) (frames []api.Frame, ends []int, broken int) {
	at := 0
	for {
		rest := stream[at:]
		if i := bytes.IndexFunc(rest[min(2, len(rest)):min(5, len(rest))], func(r rune) bool { return r != 0 }); i >= 0 {
			return frames, ends, at + 2 + i
		}
		if len(rest) < 6 {
			return frames, ends, len(stream)
		}
		if rest[5] < 2 || rest[5] > 254 {
			return frames, ends, at + 5
		}
		size := 6 + int(rest[5])
		if len(rest) < size {
			return frames, ends, len(stream)
		}
		frames = append(frames, api.Frame{Mark: int(rest[0])*256 + int(rest[1]), Unit: int(rest[6]), Data: rest[7:size]})
		at += size
		ends = append(ends, at)
	}
}

// randomStream gives frames one behind the other, some with a byte that is off or an end cut short.
func randomStream(r *rand.Rand) []byte {
	var stream []byte
	for range r.Intn(7) {
		size := 1 + r.Intn(6)
		if r.Intn(3) == 0 {
			size = 1 + r.Intn(api.MaxData)
		}
		data := make([]byte, size)
		r.Read(data)
		stream = append(stream, layOut(r.Intn(65536), r.Intn(256), data)...)
	}
	if len(stream) > 0 && r.Intn(2) == 0 {
		stream[r.Intn(len(stream))] = byte(r.Intn(256))
	}
	return stream[:len(stream)-r.Intn(min(len(stream), 8)+1)]
}

func checkPieces(t *testing.T, stream []byte, next func(left int) int) {
	t.Helper()
	frames, ends, broken := expected(stream)
	s := relay.NewSplitter()
	given := 0
	for at := 0; at < len(stream); {
		to := at + next(len(stream)-at)
		whole := given
		for whole < len(ends) && ends[whole] <= to {
			whole++
		}
		errno := api.OK
		if to > broken {
			errno = api.ErrFrame
		}
		got, e := s.Feed(stream[at:to])
		if e != errno || !sameFrames(got, frames[given:whole]) {
			t.Fatalf("P4: of %v the bytes %d to %d = %v, %d, want %v, %d", stream, at, to, got, e, frames[given:whole], errno)
		}
		at, given = to, whole
	}
}

func TestFeedRandomPieces(t *testing.T) {
	r := rand.New(rand.NewSource(20))
	for range 3000 {
		stream := randomStream(r)
		checkPieces(t, stream, func(left int) int { return left })
		checkPieces(t, stream, func(left int) int { return 1 })
		checkPieces(t, stream, func(left int) int { return r.Intn(min(left, 40) + 1) })
	}
}

func FuzzFeed(f *testing.F) {
	for _, bad := range breaking() {
		f.Add(bad, 1)
	}
	f.Add(layOut(1, 17, []byte{3, 0, 0, 0, 2}), 5)
	f.Fuzz(func(t *testing.T, stream []byte, size int) {
		checkPieces(t, stream, func(left int) int { return max(1, min(size, left)) })
	})
}
