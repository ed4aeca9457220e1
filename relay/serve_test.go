package relay_test

import (
	"bytes"
	"math"
	"slices"
	"testing"

	"relay/api"
	"relay/relay"
)

func sameLists(a, b [][]byte) bool { return slices.EqualFunc(a, b, bytes.Equal) }

func wantServe(t *testing.T, b *relay.Bank, conns []api.Conn, picks []int, stop int, want ...[]byte) {
	t.Helper()
	if got, errno := b.Serve(conns, picks, stop); errno != api.OK || !sameLists(got, want) {
		t.Errorf("P8, P9: Serve(%v, %v, %d) = %v, %d, want %v", conns, picks, stop, got, errno, want)
	}
}

func wantServeError(t *testing.T, b *relay.Bank, conns []api.Conn, picks []int, stop int, want api.Errno) {
	t.Helper()
	got, errno := b.Serve(conns, picks, stop)
	if errno != want {
		t.Errorf("P8: Serve(%v, %v, %d) = %d, want %d", conns, picks, stop, errno, want)
	}
	if got != nil {
		t.Errorf("P1: Serve(%v, %v, %d) = %v with an error, want nil", conns, picks, stop, got)
	}
}

// inFrames lays out requests, or answers, one behind the other; their marks count on from one.
func inFrames(mark, unit int, list ...[]byte) []byte {
	var stream []byte
	for i, data := range list {
		stream = append(stream, layOut(mark+i, unit, data)...)
	}
	return stream
}

// over gives a connection whose stream comes in these pieces.
func over(client int, chunks ...[]byte) api.Conn { return api.Conn{Client: client, Chunks: chunks} }

func TestServeOfTheDocument(t *testing.T) {
	one, two, read := request(6, 0, 1), request(6, 0, 2), reading(3, 0, 1)
	conns := []api.Conn{over(0, inFrames(1, 17, one, read)), over(0, inFrames(1, 17, two))}
	for _, c := range []struct {
		picks []int
		reads byte
		stays int
	}{
		{[]int{0, 1, 0}, 2, 2},
		{[]int{0, 0}, 1, 2},
		{[]int{1, 0, 0}, 1, 1},
		{nil, 1, 2},
	} {
		b := documentBank(t)
		answers := inFrames(1, 17, one, []byte{3, 2, 0, c.reads})
		wantServe(t, b, conns, c.picks, -1, answers, inFrames(1, 17, two))
		wantGet(t, b, api.Holders, 0, c.stays)
	}
	b := documentBank(t)
	wantServe(t, b, conns, []int{0, 1, 0}, 1, inFrames(1, 17, one), nil)
	wantGet(t, b, api.Holders, 0, 1)
	wantServe(t, b, conns, []int{1}, 1, nil, inFrames(1, 17, two))
	wantGet(t, b, api.Holders, 0, 2)
}

// journal gives connections with so many requests each, which tell in what order they are done:
// each request writes a holder of its own and reads those of all. It also gives whose each request is.
func journal(counts ...int) (conns []api.Conn, owners []int) {
	all := 0
	for _, n := range counts {
		all += n
	}
	for i, n := range counts {
		var stream []byte
		for range n {
			q := carrying(request(23, 0, all, len(owners), 1), 0, 1)
			stream = append(stream, layOut(len(owners), i, q)...)
			owners = append(owners, i)
		}
		conns = append(conns, over(0, stream))
	}
	return conns, owners
}

// orderDone serves a journal by a new bank, and gives the connections in the order of their turns.
func orderDone(t *testing.T, counts []int, picks []int, stop int) []int {
	t.Helper()
	conns, owners := journal(counts...)
	b := newBank(t, api.Config{Sizes: [4]int{0, 0, 0, len(owners)}, Limit: 4, Rules: [][]api.Rule{allow()}})
	out, errno := b.Serve(conns, picks, stop)
	if errno != api.OK || len(out) != len(conns) {
		t.Fatalf("P8: Serve(%v, %v, %d) = %v, %d", conns, picks, stop, out, errno)
	}
	order := slices.Repeat([]int{-1}, len(owners))
	done := 0
	for i, stream := range out {
		answers, _, _ := expected(stream)
		for _, a := range answers {
			if a.Unit != i || owners[a.Mark] != i {
				t.Fatalf("P9: the connection %d has the answer %v", i, a)
			}
			order[bytes.Count(a.Data[2:], []byte{1})-1] = i
			done++
		}
	}
	return order[:done]
}

func TestServeInTheOrderOfPicks(t *testing.T) {
	counts := []int{2, 1, 3}
	for _, c := range []struct{ picks, want []int }{
		{nil, []int{0, 0, 1, 2, 2, 2}},
		{[]int{0, 0, 0, 0, 0, 0}, []int{0, 0, 1, 2, 2, 2}},
		{[]int{1}, []int{1, 0, 0, 2, 2, 2}},
		// Without the connection 1 the connection 2 stands at the place 1.
		{[]int{1, 1, 1, 1}, []int{1, 2, 2, 2, 0, 0}},
		{[]int{2, 2, 2, 2}, []int{2, 2, 2, 0, 0, 1}},
		{[]int{3, 4, 5, 6, 7, 8, 9}, []int{0, 1, 2, 0, 2, 2}},
		{[]int{-1, -1, -1, -1}, []int{1, 2, 2, 2, 0, 0}},
		{[]int{-2, -4, 4, -5}, []int{2, 1, 0, 2, 0, 2}},
		// Also where one alone is left, each turn takes a pick.
		{[]int{0, 0, 0, 1, 1, 1, 1, 1}, []int{0, 0, 1, 2, 2, 2}},
		{[]int{math.MinInt, 2, math.MinInt, 1}, []int{0, 2, 0, 2, 1, 2}},
	} {
		if got := orderDone(t, counts, c.picks, -1); !slices.Equal(got, c.want) {
			t.Errorf("P8: with the picks %v the order is %v, want %v", c.picks, got, c.want)
		}
	}
}

func TestServeAtAllPicks(t *testing.T) {
	for _, c := range []struct {
		pick int
		// places has the place among one connection, two, three, four.
		places [4]int
	}{
		{0, [4]int{}}, {1, [4]int{0, 1, 1, 1}}, {-1, [4]int{0, 1, 1, 1}}, {2, [4]int{0, 0, 2, 2}}, {-2, [4]int{0, 0, 2, 2}},
		{3, [4]int{0, 1, 0, 3}}, {-3, [4]int{0, 1, 0, 3}}, {-7, [4]int{0, 1, 1, 3}}, {12, [4]int{}}, {-12, [4]int{}},
		{math.MaxInt, [4]int{0, 1, 1, 3}}, {-math.MaxInt, [4]int{0, 1, 1, 3}},
		{math.MaxInt - 1, [4]int{0, 0, 0, 2}}, {-math.MaxInt + 1, [4]int{0, 0, 0, 2}},
		{math.MinInt, [4]int{}},
	} {
		for n, want := range c.places {
			counts := slices.Repeat([]int{1}, n+1)
			if got := orderDone(t, counts, []int{c.pick}, 1); !slices.Equal(got, []int{want}) {
				t.Errorf("P8: the pick %d of %d connections takes %v, want %d", c.pick, n+1, got, want)
			}
		}
	}
}

// turnsOf is a second reading of P8: the order of the turns of connections with so many requests.
func turnsOf(counts []int, picks []int, stop int) []int {
	left := slices.Clone(counts)
	order := []int{}
	for {
		var open []int
		for i, n := range left {
			if n > 0 {
				open = append(open, i)
			}
		}
		if len(open) == 0 || len(order) == stop {
			return order
		}
		at := uint64(0)
		if len(order) < len(picks) {
			pick := picks[len(order)]
			at = uint64(pick)
			if pick < 0 {
				at = -at
			}
			if pick == math.MinInt {
				at = 0
			}
		}
		i := open[at%uint64(len(open))]
		order = append(order, i)
		left[i]--
	}
}

// TestServeAllOrders goes through all picks of some numbers, at every stop.
func TestServeAllOrders(t *testing.T) {
	var all [][]int
	var grow func(picks []int)
	grow = func(picks []int) {
		all = append(all, picks)
		if len(picks) < 4 {
			for _, p := range []int{-3, 0, 1, 2, math.MinInt} {
				grow(append(slices.Clone(picks), p))
			}
		}
	}
	grow(nil)
	for _, counts := range [][]int{{3}, {2, 2}, {1, 0, 2}, {0, 1, 1, 2}} {
		for _, picks := range all {
			for stop := -1; stop <= 4; stop++ {
				want := turnsOf(counts, picks, stop)
				if got := orderDone(t, counts, picks, stop); !slices.Equal(got, want) {
					t.Fatalf("P8: %v requests, picks %v, stop %d: the order is %v, want %v", counts, picks, stop, got, want)
				}
			}
		}
	}
}

func TestServeStopsAtEveryNumber(t *testing.T) {
	counts, picks := []int{3, 0, 4, 2}, []int{2, -1, 7, 5, 3}
	whole := turnsOf(counts, picks, -1)
	for stop := range 12 {
		want := whole[:min(stop, 9)]
		if got := orderDone(t, counts, picks, stop); !slices.Equal(got, want) {
			t.Errorf("P8: with stop %d the order is %v, want %v", stop, got, want)
		}
	}
	for _, stop := range []int{-1, -2, math.MinInt, math.MaxInt} {
		if got := orderDone(t, counts, picks, stop); !slices.Equal(got, whole) {
			t.Errorf("P8: with stop %d the order is %v, want %v", stop, got, whole)
		}
	}
}

// TestServeDoesNothingBehindStop: requests that get no turn change nothing.
func TestServeDoesNothingBehindStop(t *testing.T) {
	conns, _ := journal(2, 3)
	for stop := range 7 {
		b := newBank(t, api.Config{Sizes: [4]int{0, 0, 0, 5}, Limit: 4, Rules: [][]api.Rule{allow()}})
		b.Serve(conns, nil, stop)
		done := min(stop, 5)
		wantGet(t, b, api.Holders, 0, append(slices.Repeat([]int{1}, done), make([]int, 5-done)...)...)
	}
	// A request that is not done for an exception counts all the same.
	b := documentBank(t)
	bad, good := []byte{99}, request(6, 0, 9)
	wantServe(t, b, []api.Conn{over(0, inFrames(1, 2, bad, good))}, nil, 1, inFrames(1, 2, []byte{227, 1}))
	wantGet(t, b, api.Holders, 0, 0)
}

func TestServeFirstLimitAlone(t *testing.T) {
	for limit := 1; limit <= api.MaxLimit; limit++ {
		for n := range 8 {
			b := newBank(t, api.Config{Sizes: [4]int{0, 0, 0, 8}, Limit: limit, Rules: [][]api.Rule{allow()}})
			conns, want := make([]api.Conn, n), make([][]byte, n)
			holders := make([]int, 8)
			for i := range conns {
				conns[i] = over(0, inFrames(i, i, request(6, i, 7)))
				if i < limit {
					want[i] = inFrames(i, i, request(6, i, 7))
					holders[i] = 7
				}
			}
			// Those that are not served are not among those that are picked.
			wantServe(t, b, conns, []int{limit, limit + 1, 6, 7}, -1, want...)
			wantGet(t, b, api.Holders, 0, holders...)
		}
	}
}

// TestServeOthersDoNotMoveUp: a connection without requests is served too, so that none stands in for it.
func TestServeOthersDoNotMoveUp(t *testing.T) {
	b := documentBank(t)
	late := over(0, inFrames(1, 1, request(6, 0, 9)))
	wantServe(t, b, []api.Conn{{}, {}, late}, nil, -1, nil, nil, nil)
	wantServe(t, b, []api.Conn{over(0, []byte{1, 1, 1}), {}, late, late}, []int{1, 2, 3}, 5, nil, nil, nil, nil)
	wantGet(t, b, api.Holders, 0, 0)
}

func TestServeNoSuchClient(t *testing.T) {
	for limit := 1; limit <= api.MaxLimit; limit++ {
		for _, rules := range [][][]api.Rule{nil, {allow()}, {allow(), nil, nil}, slices.Repeat([][]api.Rule{allow()}, 6)} {
			b := newBank(t, api.Config{Sizes: [4]int{0, 0, 0, 8}, Limit: limit, Rules: rules})
			for _, client := range []int{math.MinInt, -1, len(rules), 6, 1 << 32, math.MaxInt} {
				for place := range limit {
					conns := make([]api.Conn, place+2)
					for i := range conns {
						conns[i] = over(0, inFrames(i, i, request(6, i, 7)))
					}
					for _, chunks := range [][][]byte{nil, conns[0].Chunks, {{1, 1, 1}}} {
						conns[place] = over(client, chunks...)
						for _, stop := range []int{-1, 0, 1, 9} {
							wantServeError(t, b, conns, []int{0, 1}, stop, api.ErrClient)
						}
					}
				}
				wantGet(t, b, api.Holders, 0, make([]int, 8)...)
			}
		}
	}
}

func TestServeUnservedMayBeNoClients(t *testing.T) {
	for limit := 1; limit <= api.MaxLimit; limit++ {
		b := newBank(t, api.Config{Sizes: [4]int{0, 0, 0, 8}, Limit: limit, Rules: [][]api.Rule{allow()}})
		for _, client := range []int{math.MinInt, -1, 1, math.MaxInt} {
			conns, want := make([]api.Conn, limit+2), make([][]byte, limit+2)
			conns[0], want[0] = over(0, inFrames(1, 1, request(6, 0, 7))), inFrames(1, 1, request(6, 0, 7))
			conns[limit] = over(client, inFrames(1, 1, request(6, 1, 7)))
			conns[limit+1] = over(client)
			wantServe(t, b, conns, nil, -1, want...)
		}
		wantGet(t, b, api.Holders, 0, 7, 0)
	}
}

func TestServeNoConnections(t *testing.T) {
	for _, b := range []*relay.Bank{documentBank(t), newBank(t, api.Config{Limit: 4})} {
		for _, stop := range []int{-1, 0, 1} {
			wantServe(t, b, nil, nil, stop)
			wantServe(t, b, []api.Conn{}, []int{1, 2, math.MinInt}, stop)
		}
	}
}

// TestServeByRules: each connection may do what its own client may.
func TestServeByRules(t *testing.T) {
	b := documentBank(t)
	asks := [][]byte{request(6, 3, 5), request(6, 2, 6), reading(3, 2, 3), reading(3, 1, 2), reading(3, 8, 1), {7}, {3}}
	all := [][]byte{request(6, 3, 5), request(6, 2, 6), {3, 6, 0, 6, 0, 5, 0, 0}, {3, 4, 0, 0, 0, 6}, {131, 2}, {135, 1}, {131, 3}}
	some := [][]byte{request(6, 3, 5), {134, 4}, {3, 6, 0, 0, 0, 5, 0, 0}, {131, 4}, {131, 2}, {135, 1}, {131, 3}}
	conns := []api.Conn{over(1, inFrames(7, 8, asks...)), over(0, inFrames(9, 10, asks...))}
	wantServe(t, b, conns, nil, -1, inFrames(7, 8, some...), inFrames(9, 10, all...))
}

func TestServeMarksAndUnits(t *testing.T) {
	b := documentBank(t)
	ask, answer := reading(3, 0, 1), []byte{3, 2, 0, 0}
	for _, mark := range []int{0, 1, 255, 256, 258, 65280, 65535} {
		for _, unit := range []int{0, 1, 127, 128, 255} {
			// The same mark may come again, and over another connection.
			stream := slices.Concat(layOut(mark, unit, ask), layOut(mark, 255-unit, []byte{0}), layOut(mark, unit, ask))
			want := slices.Concat(layOut(mark, unit, answer), layOut(mark, 255-unit, []byte{128, 1}), layOut(mark, unit, answer))
			wantServe(t, b, []api.Conn{over(0, stream), over(0, stream)}, []int{0, 1, 0, 1}, -1, want, want)
		}
	}
}

func TestServeLongestRequestsAndAnswers(t *testing.T) {
	b := wideBank(t)
	words := counting(2 * api.MaxWriteWords)
	stream := inFrames(1, 1, carrying(request(16, 0, api.MaxWriteWords), words...), counting(api.MaxData),
		reading(3, 0, api.MaxReadWords), carrying(request(23, 0, api.MaxReadWords, 0, api.MaxBothWords), words[:2*api.MaxBothWords]...))
	read := carrying([]byte{3}, append(slices.Clone(words), 0, 0, 0, 0)...)
	both := slices.Clone(read)
	both[0] = 23
	wantServe(t, b, []api.Conn{over(0, stream)}, nil, -1, inFrames(1, 1, request(16, 0, api.MaxWriteWords), []byte{129, 3}, read, both))
}
