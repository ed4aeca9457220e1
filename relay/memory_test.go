package relay_test

import (
	"bytes"
	"testing"

	"relay/api"
	"relay/relay"
)

// roomy gives list with bytes around it in the same memory, and that memory whole.
func roomy(list []byte) (inner, whole []byte) {
	whole = bytes.Repeat([]byte{0xA5}, len(list)+80)
	copy(whole[16:], list)
	return whole[16 : 16+len(list)], whole
}

func fill(list []byte, b byte) {
	for i := range list {
		list[i] = b
	}
}

// scribble writes into the whole of what came out, spare room too.
func scribble(list []api.Frame) {
	for _, f := range list {
		fill(f.Data[:cap(f.Data)], 0xEE)
	}
	list = list[:cap(list)]
	for i := range list {
		list[i] = api.Frame{Mark: -1, Unit: -1, Data: []byte{0xEE}}
	}
}

func TestFrameLeavesDataAlone(t *testing.T) {
	for _, n := range []int{0, 1, 5, 253, 254} {
		data, whole := roomy(counting(n))
		before := bytes.Clone(whole)
		got, _ := relay.Frame(258, 9, data)
		want := bytes.Clone(got)
		if !bytes.Equal(whole, before) {
			t.Errorf("P2: Frame wrote into its data of %d bytes, or around it", n)
		}
		fill(whole, 0x11)
		if !bytes.Equal(got, want) {
			t.Errorf("P2: the frame of %d bytes shares memory with the data", n)
		}
		fill(got[:cap(got)], 0x22)
		if !bytes.Equal(whole, bytes.Repeat([]byte{0x11}, len(whole))) {
			t.Errorf("P2: the data of %d bytes shares memory with the frame", n)
		}
	}
}

func TestFramesShareNothing(t *testing.T) {
	data := counting(40)
	first, _ := relay.Frame(1, 2, data)
	second, _ := relay.Frame(1, 2, data)
	fill(first[:cap(first)], 0xEE)
	third, _ := relay.Frame(1, 2, data)
	if want := layOut(1, 2, data); !bytes.Equal(second, want) || !bytes.Equal(third, want) {
		t.Errorf("P2: frames changed by what was written into another: %v, %v", second, third)
	}
}

func TestFeedLeavesChunkAlone(t *testing.T) {
	frame, one := aFrame(258, 9, counting(30)...)
	for _, c := range []struct {
		stream []byte
		errno  api.Errno
		want   []api.Frame
	}{
		{one, api.OK, []api.Frame{frame}},
		{append(bytes.Clone(one), one[:9]...), api.OK, []api.Frame{frame}},
		{append(bytes.Clone(one), 0, 1, 1), api.ErrFrame, []api.Frame{frame}},
	} {
		chunk, whole := roomy(c.stream)
		before := bytes.Clone(whole)
		got, errno := relay.NewSplitter().Feed(chunk)
		if !bytes.Equal(whole, before) {
			t.Errorf("P2: Feed wrote into its chunk %v, or around it", c.stream)
		}
		fill(whole, 0x11)
		if errno != c.errno || !sameFrames(got, c.want) {
			t.Errorf("P2: of %v, when the chunk is changed: %v, %d, want %v, %d", c.stream, got, errno, c.want, c.errno)
		}
		scribble(got)
		if !bytes.Equal(whole, bytes.Repeat([]byte{0x11}, len(whole))) {
			t.Errorf("P2: the chunk %v shares memory with the frames", c.stream)
		}
	}
}

func TestFeedKeepsNoChunk(t *testing.T) {
	frame, stream := aFrame(258, 9, counting(30)...)
	for cut := range stream {
		s := relay.NewSplitter()
		head, wholeHead := roomy(stream[:cut])
		wantFeed(t, s, head, api.OK)
		fill(wholeHead, 0x11)
		tail, wholeTail := roomy(stream[cut:])
		before := bytes.Clone(wholeTail)
		wantFeed(t, s, tail, api.OK, frame)
		if !bytes.Equal(wholeTail, before) || !bytes.Equal(wholeHead, bytes.Repeat([]byte{0x11}, len(wholeHead))) {
			t.Errorf("P2: with a cut at %d Feed wrote into a chunk, or around it", cut)
		}
	}
}

func TestFeedListsShareNothing(t *testing.T) {
	a, one := aFrame(1, 1, counting(20)...)
	b, two := aFrame(2, 2, counting(3)...)
	stream := bytes.Join([][]byte{one, two, one, two}, nil)
	want := []api.Frame{a, b, a, b}
	for i := range want {
		got, _ := relay.NewSplitter().Feed(stream)
		if len(got) != len(want) {
			t.Fatalf("P4: %d frames, want %d", len(got), len(want))
		}
		fill(got[i].Data[:cap(got[i].Data)], 0xEE)
		for j := range want {
			if j != i && !sameFrames(got[j:j+1], want[j:j+1]) {
				t.Errorf("P2: writing into the frame %d changed the frame %d: %v", i, j, got[j])
			}
		}
	}
}

func TestFeedLaterFramesUnchanged(t *testing.T) {
	a, one := aFrame(1, 1, counting(20)...)
	b, two := aFrame(2, 2, counting(253)...)
	for cut := range two {
		s := relay.NewSplitter()
		early, _ := s.Feed(bytes.Join([][]byte{one, one, two[:cut]}, nil))
		scribble(early)
		late, errno := s.Feed(append(bytes.Clone(two[cut:]), one...))
		if want := []api.Frame{b, a}; errno != api.OK || !sameFrames(late, want) {
			t.Errorf("P2: with a cut at %d, writing into earlier frames changed later ones: %v, %d", cut, late, errno)
		}
		kept := api.Frame{Mark: late[0].Mark, Unit: late[0].Unit, Data: bytes.Clone(late[0].Data)}
		if again, _ := s.Feed(one); !sameFrames(again, []api.Frame{a}) || !sameFrames(late[:1], []api.Frame{kept}) {
			t.Errorf("P2: with a cut at %d, a later Feed changed earlier frames", cut)
		}
	}
}

func TestSplittersDoNotChangeOneAnother(t *testing.T) {
	a, one := aFrame(1, 1, counting(20)...)
	b, two := aFrame(2, 2, counting(30)...)
	left, right, bad := relay.NewSplitter(), relay.NewSplitter(), relay.NewSplitter()
	for i := range len(one) - 1 {
		wantFeed(t, left, one[i:i+1], api.OK)
		wantFeed(t, right, two[i:i+1], api.OK)
	}
	wantFeed(t, bad, []byte{0, 0, 1}, api.ErrFrame)
	wantFeed(t, left, one[len(one)-1:], api.OK, a)
	wantFeed(t, right, two[len(one)-1:], api.OK, b)
	wantFeed(t, bad, one, api.ErrFrame)
	wantFeed(t, relay.NewSplitter(), one, api.OK, a)
}
