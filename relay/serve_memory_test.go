package relay_test

import (
	"bytes"
	"slices"
	"testing"

	"relay/api"
	"relay/relay"
)

// handed is what is handed in to Serve, with spare room behind each list, and all the memory that it stands in.
type handed struct {
	conns, allConns []api.Conn
	allChunks       [][]byte
	allBytes        []byte
	picks, allPicks []int
}

// handIn gives three connections in chunks: the one whose stream stands first in memory,
// the same memory again, and one whose stream breaks; and what Serve of the document's bank answers.
func handIn() (handed, [][]byte) {
	asks, answers := someAsks()
	stream, bad := inFrames(1, 17, asks...), []byte{0, 1, 1, 0, 0}
	var h handed
	inner, whole := roomy(slices.Concat(stream, bad))
	h.allBytes = whole
	h.allChunks = slices.Repeat([][]byte{{9, 9, 9}}, 20)
	copy(h.allChunks[3:], [][]byte{inner[:10], inner[10:10], inner[10:len(stream)], inner[len(stream):]})
	h.allConns = slices.Repeat([]api.Conn{{Client: 1, Chunks: [][]byte{{8, 8, 8}}}}, 9)
	copy(h.allConns[2:], []api.Conn{over(0, h.allChunks[3:6]...), over(0, h.allChunks[3:7]...), over(0, h.allChunks[6:7]...)})
	h.conns = h.allConns[2:5]
	h.picks, h.allPicks = spacious([]int{0, 5, -3, 1, 0})
	return h, [][]byte{inFrames(1, 17, answers...), inFrames(1, 17, answers...), nil}
}

// copied gives what memory holds now, so that it can be held against what it holds later.
func (h handed) copied() handed {
	c := handed{allBytes: bytes.Clone(h.allBytes), allPicks: slices.Clone(h.allPicks)}
	for _, chunk := range h.allChunks {
		c.allChunks = append(c.allChunks, bytes.Clone(chunk))
	}
	for _, conn := range h.allConns {
		c.allConns = append(c.allConns, over(conn.Client, slices.Clone(conn.Chunks)...))
	}
	return c
}

func (h handed) same(c handed) bool {
	sameConn := func(a, b api.Conn) bool { return a.Client == b.Client && sameLists(a.Chunks, b.Chunks) }
	return bytes.Equal(h.allBytes, c.allBytes) && sameLists(h.allChunks, c.allChunks) &&
		slices.Equal(h.allPicks, c.allPicks) && slices.EqualFunc(h.allConns, c.allConns, sameConn)
}

// overwrite writes into all memory that was handed in.
func (h handed) overwrite() {
	fill(h.allBytes, 0x11)
	for i := range h.allChunks {
		h.allChunks[i] = []byte{7}
	}
	for i := range h.allConns {
		h.allConns[i] = over(5, []byte{7})
	}
	for i := range h.allPicks {
		h.allPicks[i] = 7
	}
}

// scrawl writes into the whole of what came out, spare room too.
func scrawl(lists [][]byte) {
	for _, list := range lists {
		fill(list[:cap(list)], 0xEE)
	}
	lists = lists[:cap(lists)]
	for i := range lists {
		lists[i] = []byte{0xEE}
	}
}

func cloneLists(lists [][]byte) [][]byte {
	var all [][]byte
	for _, list := range lists {
		all = append(all, bytes.Clone(list))
	}
	return all
}

func servingBank(t *testing.T) *relay.Bank {
	t.Helper()
	return newBank(t, api.Config{Sizes: [4]int{20, 10, 5, 8}, Limit: 3, Rules: [][]api.Rule{allow()}})
}

func TestServeLeavesWhatIsHandedInAlone(t *testing.T) {
	for stop := -1; stop < 12; stop++ {
		h, _ := handIn()
		before := h.copied()
		if _, errno := servingBank(t).Serve(h.conns, h.picks, stop); errno != api.OK {
			t.Fatalf("P8: Serve = %d", errno)
		}
		if !h.same(before) {
			t.Errorf("P2: Serve with stop %d wrote into what was handed in, or around it", stop)
		}
	}
	h, _ := handIn()
	h.conns[2].Client = 1
	before := h.copied()
	wantServeError(t, servingBank(t), h.conns, h.picks, -1, api.ErrClient)
	if !h.same(before) {
		t.Errorf("P2: Serve with an error wrote into what was handed in, or around it")
	}
}

func TestServeSharesNothingWithWhatIsHandedIn(t *testing.T) {
	b := servingBank(t)
	h, want := handIn()
	out, errno := b.Serve(h.conns, h.picks, -1)
	if errno != api.OK || !sameLists(out, want) {
		t.Fatalf("P9: Serve = %v, %d, want %v", out, errno, want)
	}
	tables := snapshot(t, b, [4]int{20, 10, 5, 8})
	h.overwrite()
	if !sameLists(out, want) {
		t.Errorf("P2: what came out shares memory with what was handed in: %v, want %v", out, want)
	}
	after := h.copied()
	scrawl(out)
	if !h.same(after) {
		t.Errorf("P2: what was handed in shares memory with what came out")
	}
	wantTables(t, b, tables)
}

// TestServeListsShareNothing: writing into one list, and into its spare room, changes no other.
func TestServeListsShareNothing(t *testing.T) {
	h, _ := handIn()
	// A third connection with answers of its own.
	h.conns[2] = over(0, inFrames(300, 4, reading(3, 0, 8), []byte{77}))
	want := cloneLists(first(servingBank(t).Serve(h.conns, h.picks, -1)))
	for i := range want {
		out := first(servingBank(t).Serve(h.conns, h.picks, -1))
		if len(out) != len(want) || len(out[i]) == 0 {
			t.Fatalf("P9: Serve = %v", out)
		}
		fill(out[i][:cap(out[i])], 0xEE)
		for j := range want {
			if j != i && !bytes.Equal(out[j], want[j]) {
				t.Errorf("P2: writing into the answers of the connection %d changed those of %d: %v, want %v", i, j, out[j], want[j])
			}
		}
		grown := append(out[i], counting(500)...)
		for j := range want {
			if j != i && !bytes.Equal(out[j], want[j]) {
				t.Errorf("P2: putting %d bytes behind the answers of the connection %d changed those of %d", len(grown), i, j)
			}
		}
	}
}

func first(lists [][]byte, _ api.Errno) [][]byte { return lists }

// TestServeLaterAnswersUnchanged: what is written into earlier lists is not in later ones, nor the other way round.
func TestServeLaterAnswersUnchanged(t *testing.T) {
	b := servingBank(t)
	h, want := handIn()
	early := first(b.Serve(h.conns, h.picks, -1))
	kept := cloneLists(early)
	late := first(b.Serve(h.conns, h.picks, -1))
	if !sameLists(early, kept) || !sameLists(late, want) {
		t.Errorf("P2: a later Serve changed earlier answers, or is changed by them: %v, %v, want %v", early, late, want)
	}
	scrawl(early)
	if !sameLists(late, want) {
		t.Errorf("P2: writing into earlier answers changed later ones: %v, want %v", late, want)
	}
	scrawl(late)
	wantServe(t, b, h.conns, h.picks, -1, want...)
	wantGet(t, b, api.Holders, 0, 1, 2, 0, 0)
}

func TestServedBanksDoNotChangeOneAnother(t *testing.T) {
	one, two := servingBank(t), servingBank(t)
	h, want := handIn()
	wantServe(t, one, h.conns, h.picks, -1, want...)
	wantGet(t, two, api.Holders, 0, 0, 0)
	wantServe(t, two, []api.Conn{over(0, inFrames(1, 1, request(6, 0, 9)))}, nil, -1, inFrames(1, 1, request(6, 0, 9)))
	wantGet(t, one, api.Holders, 0, 1, 2)
}
