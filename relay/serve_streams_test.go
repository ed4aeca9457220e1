package relay_test

import (
	"bytes"
	"math/rand"
	"slices"
	"testing"

	"relay/api"
)

// someAsks gives requests of the document's bank, and their answers. A second time, or over
// several connections at once, they are answered alike: none writes what another does not.
func someAsks() (asks, answers [][]byte) {
	return [][]byte{request(6, 0, 1), carrying(request(23, 0, 2, 1, 1), 0, 2), {99}, request(6, 9, 1), reading(3, 0, 2)},
		[][]byte{request(6, 0, 1), {23, 4, 0, 1, 0, 2}, {227, 1}, {134, 2}, {3, 4, 0, 1, 0, 2}}
}

// ends gives where frames with these data end, when they stand one behind the other; ahead of them the beginning, 0.
func ends(list [][]byte) []int {
	all := []int{0}
	for i := range list {
		all = append(all, len(inFrames(1, 17, list[:i+1]...)))
	}
	return all
}

// TestServeStreamsCutShort: of a stream that ends within a frame the whole frames ahead of it count.
func TestServeStreamsCutShort(t *testing.T) {
	asks, answers := someAsks()
	stream, places := inFrames(1, 17, asks...), ends(asks)
	for n := range len(stream) + 1 {
		whole := 0
		for whole < len(asks) && places[whole+1] <= n {
			whole++
		}
		want := inFrames(1, 17, answers[:whole]...)
		wantServe(t, documentBank(t), []api.Conn{over(0, stream[:n])}, nil, -1, want)
		wantServe(t, documentBank(t), []api.Conn{over(0, stream[:n]), over(0, stream)}, nil, -1, want, inFrames(1, 17, answers...))
	}
}

// inPieces cuts a stream into chunks of n bytes.
func inPieces(stream []byte, n int) [][]byte { return slices.Collect(slices.Chunk(stream, n)) }

func TestServeStreamsInPieces(t *testing.T) {
	asks, answers := someAsks()
	stream, want := inFrames(1, 17, asks...), inFrames(1, 17, answers...)
	b := documentBank(t)
	for n := 1; n <= len(stream)+1; n++ {
		wantServe(t, b, []api.Conn{over(0, inPieces(stream, n)...)}, nil, -1, want)
	}
	for one := range len(stream) + 1 {
		for two := one; two <= len(stream); two++ {
			wantServe(t, b, []api.Conn{over(0, stream[:one], nil, stream[one:two], []byte{}, stream[two:])}, nil, -1, want)
		}
	}
	wantServe(t, b, []api.Conn{over(0, nil, []byte{}, nil), over(0)}, []int{1, 2}, -1, nil, nil)
}

// TestServeTurnsInPieces: how streams are cut does not change whose turn it is.
func TestServeTurnsInPieces(t *testing.T) {
	conns, _ := journal(3, 2, 4)
	picks := []int{2, 1, -5, 3, 0, 8}
	c := api.Config{Sizes: [4]int{0, 0, 0, 9}, Limit: 3, Rules: [][]api.Rule{allow()}}
	for stop := -1; stop < 10; stop++ {
		want, _ := newBank(t, c).Serve(conns, picks, stop)
		for n := 1; n < 20; n++ {
			pieces := slices.Clone(conns)
			for i := range pieces {
				pieces[i].Chunks = inPieces(conns[i].Chunks[0], n+i)
			}
			wantServe(t, newBank(t, c), pieces, picks, stop, want...)
		}
	}
}

func TestServeStreamsThatBreak(t *testing.T) {
	asks, answers := someAsks()
	stream, whole, places := inFrames(1, 17, asks...), inFrames(1, 17, answers...), ends(asks)
	for _, bad := range breaking() {
		for n, place := range places {
			broken := slices.Concat(stream[:place], bad, stream)
			want := inFrames(1, 17, answers[:n]...)
			for _, chunks := range [][][]byte{
				{broken},
				inPieces(broken, 1),
				inPieces(broken, 7),
				{stream[:place], bad, stream},
				{broken, stream, stream},
				{broken[:place+len(bad)-1], broken[place+len(bad)-1:]},
				{broken[:place+len(bad)]},
			} {
				wantServe(t, documentBank(t), []api.Conn{over(0, chunks...)}, nil, -1, want)
				// One that breaks does not break another.
				wantServe(t, documentBank(t), []api.Conn{over(0, chunks...), over(0, stream)}, nil, -1, want, whole)
			}
		}
	}
}

// TestServeBrokenStreamsHaveNoTurn: where no request is left, a connection is not among those that are picked.
func TestServeBrokenStreamsHaveNoTurn(t *testing.T) {
	for _, bad := range append(breaking(), nil, []byte{0, 1}, layOut(1, 2, []byte{3})[:7]) {
		b := newBank(t, api.Config{Sizes: [4]int{0, 0, 0, 3}, Limit: 4, Rules: [][]api.Rule{allow()}})
		conns, _ := journal(1, 0, 2)
		conns[1].Chunks = [][]byte{bad}
		conns[0].Chunks = append(conns[0].Chunks, bad)
		wantServe(t, b, conns, []int{1, 2}, -1,
			layOut(0, 0, []byte{23, 6, 0, 1, 0, 1, 0, 0}), nil,
			slices.Concat(layOut(1, 2, []byte{23, 6, 0, 0, 0, 1, 0, 0}), layOut(2, 2, []byte{23, 6, 0, 1, 0, 1, 0, 1})))
	}
}

// TestServeKeepsNoStream: what one call leaves of a stream is not there in the next.
func TestServeKeepsNoStream(t *testing.T) {
	asks, answers := someAsks()
	stream, want := inFrames(1, 17, asks...), inFrames(1, 17, answers...)
	b := documentBank(t)
	for _, before := range append(breaking(), stream[:3], stream[:len(stream)-1]) {
		b.Serve([]api.Conn{over(0, before), over(0, before)}, nil, -1)
		wantServe(t, b, []api.Conn{over(0, stream), over(0, stream[6:])}, nil, -1, want, nil)
	}
	b.Serve([]api.Conn{over(0, stream)}, []int{0, 1}, 2)
	wantServe(t, b, []api.Conn{over(0), over(0)}, []int{1}, -1, nil, nil)
}

// TestServeLeavesWhatWasWritten: the bank keeps it for every later call.
func TestServeLeavesWhatWasWritten(t *testing.T) {
	b := documentBank(t)
	asks := [][]byte{request(5, 19, 65280), request(6, 7, 258), carrying(request(15, 3, 10), 205, 255), carrying(request(16, 0, 2), 1, 1, 2, 2), request(22, 2, 242, 37)}
	wantSet(t, b, api.Holders, 2, api.OK, 18)
	wantSet(t, b, api.Inputs, 1, api.OK, 77)
	wantServe(t, b, []api.Conn{over(1, inFrames(1, 1, request(6, 3, 5))), over(0, inFrames(1, 1, asks...))}, nil, -1,
		inFrames(1, 1, request(6, 3, 5)), inFrames(1, 1, asks[0], asks[1], asks[2][:5], asks[3][:5], asks[4]))
	wantGet(t, b, api.Coils, 0, 0, 0, 0, 1, 0, 1, 1, 0, 0, 1, 1, 1, 1, 0, 0, 0, 0, 0, 0, 1)
	wantGet(t, b, api.Inputs, 0, 0, 77, 0, 0, 0)
	wantGet(t, b, api.Holders, 0, 257, 514, 23, 5, 0, 0, 0, 258)
	wantAnswer(t, b, 0, reading(3, 0, 2), 3, 4, 1, 1, 2, 2)
	wantServe(t, b, []api.Conn{over(0, inFrames(5, 6, reading(3, 2, 2), reading(1, 0, 16)))}, nil, -1,
		inFrames(5, 6, []byte{3, 4, 0, 23, 0, 5}, []byte{1, 2, 104, 30}))
}

// serve is P8 and P9 by the model: requests done one behind the other in the order of the turns.
func (m *model) serve(limit int, conns []api.Conn, picks []int, stop int) [][]byte {
	out := make([][]byte, len(conns))
	served := conns[:min(limit, len(conns))]
	frames, counts := make([][]api.Frame, len(served)), make([]int, len(served))
	for i, c := range served {
		frames[i], _, _ = expected(bytes.Join(c.Chunks, nil))
		counts[i] = len(frames[i])
	}
	for _, i := range turnsOf(counts, picks, stop) {
		f := frames[i][0]
		frames[i] = frames[i][1:]
		out[i] = append(out[i], layOut(f.Mark, f.Unit, m.answer(served[i].Client, f.Data))...)
	}
	return out
}

// randomConn gives requests in pieces, some with a byte that is off or an end cut short.
func randomConn(r *rand.Rand, clients int) api.Conn {
	var stream []byte
	for range r.Intn(8) {
		stream = append(stream, layOut(r.Intn(65536), r.Intn(256), randomRequest(r, 12))...)
	}
	if len(stream) > 0 && r.Intn(6) == 0 {
		stream[r.Intn(len(stream))] ^= 1 << r.Intn(8)
	}
	if r.Intn(6) == 0 {
		stream = stream[:r.Intn(len(stream)+1)]
	}
	var chunks [][]byte
	for len(stream) > 0 {
		n := r.Intn(min(len(stream), 1<<r.Intn(8)) + 1)
		chunks = append(chunks, bytes.Clone(stream[:n]))
		stream = stream[n:]
	}
	return over(r.Intn(clients), chunks...)
}

func randomPicks(r *rand.Rand) []int {
	picks := make([]int, r.Intn(25))
	for i := range picks {
		picks[i] = r.Intn(13) - 6
		if r.Intn(4) == 0 {
			picks[i] = int(r.Uint64())
		}
	}
	return picks
}

// TestServeAtRandom holds answers, and what they leave in the tables, against the model, call by call.
func TestServeAtRandom(t *testing.T) {
	r := rand.New(rand.NewSource(30))
	answered := 0
	for range 500 {
		c := api.Config{Limit: 1 + r.Intn(4), Rules: [][]api.Rule{allow(), randomRules(r), nil, allow()}}
		for table := range c.Sizes {
			c.Sizes[table] = r.Intn(15)
		}
		b, m := newBank(t, c), newModel(c)
		for range 8 {
			conns := make([]api.Conn, r.Intn(7))
			for i := range conns {
				conns[i] = randomConn(r, 4)
			}
			picks, stop := randomPicks(r), r.Intn(40)-15
			want := m.serve(c.Limit, conns, picks, stop)
			wantServe(t, b, conns, picks, stop, want...)
			wantTables(t, b, m)
			for _, list := range want {
				answered += len(list)
			}
		}
		if t.Failed() {
			t.FailNow()
		}
	}
	if answered < 100000 {
		t.Errorf("the answers had %d bytes: the test is too weak", answered)
	}
}
