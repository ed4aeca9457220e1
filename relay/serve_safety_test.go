package relay_test

import (
	"bytes"
	"math"
	"math/rand"
	"runtime"
	"slices"
	"sync"
	"testing"
	"time"

	"relay/api"
	"relay/relay"
)

// goOn says how many goroutines there are more than before. One that has nothing
// left to do may be counted for a moment, so it is given time to be gone.
func goOn(before int) int {
	for i := 0; i < 5000 && runtime.NumGoroutine() > before; i++ {
		time.Sleep(time.Millisecond)
	}
	return runtime.NumGoroutine() - before
}

func TestNothingOfServeGoesOn(t *testing.T) {
	conns, _ := journal(3, 0, 4, 2)
	conns[1].Chunks = [][]byte{{1, 1, 1}}
	c := api.Config{Sizes: [4]int{0, 0, 0, 9}, Limit: 4, Rules: [][]api.Rule{allow()}}
	before := runtime.NumGoroutine()
	for stop := -1; stop < 12; stop++ {
		b := newBank(t, c)
		for n := range len(conns) + 1 {
			b.Serve(conns[:n], []int{3, 1, 2}, stop)
		}
		wrong := slices.Clone(conns)
		wrong[3].Client = 1
		wantServeError(t, b, wrong, nil, stop, api.ErrClient)
		if n := goOn(before); n > 0 {
			t.Fatalf("P1: %d goroutines go on after Serve with stop %d", n, stop)
		}
	}
}

// TestServeWaitsForItsGoroutines: on one core none can end by itself between
// the end of Serve and the count, but for a chance that seldom comes.
func TestServeWaitsForItsGoroutines(t *testing.T) {
	const times = 200
	defer runtime.GOMAXPROCS(runtime.GOMAXPROCS(1))
	conns, _ := journal(3, 0, 4, 2)
	b := newBank(t, api.Config{Sizes: [4]int{0, 0, 0, 9}, Limit: 4, Rules: [][]api.Rule{allow()}})
	late := 0
	for n := range times {
		before := runtime.NumGoroutine()
		b.Serve(conns, []int{3, 1, 2}, n%10)
		if runtime.NumGoroutine() > before {
			late++
		}
		goOn(before)
	}
	if late > times/4 {
		t.Errorf("P1: after %d of %d calls of Serve goroutines go on", late, times)
	}
}

// TestServeHasEnded: what was asked for stands in the bank when Serve answers, and nothing is changed later.
func TestServeHasEnded(t *testing.T) {
	b := newBank(t, api.Config{Sizes: [4]int{0, 0, 0, 100}, Limit: 4, Rules: [][]api.Rule{allow()}})
	for n := range 500 {
		stream := inFrames(1, 1, carrying(request(16, 0, 100), bytes.Repeat([]byte{byte(n)}, 200)...))
		b.Serve([]api.Conn{over(0, stream), over(0, stream), over(0, stream)}, []int{2, 1, 0}, -1)
		wantGet(t, b, api.Holders, 0, slices.Repeat([]int{n % 256 * 257}, 100)...)
	}
}

func TestServeAtAllNumbers(t *testing.T) {
	numbers := []int{math.MinInt, math.MinInt + 1, -4, -1, 0, 1, 3, 4, 5, math.MaxInt - 1, math.MaxInt}
	asks, _ := someAsks()
	stream := inFrames(1, 17, asks...)
	for limit := 1; limit <= api.MaxLimit; limit++ {
		b := newBank(t, api.Config{Limit: limit, Rules: [][]api.Rule{allow(), nil}})
		for _, client := range numbers {
			for _, pick := range numbers {
				for _, stop := range numbers {
					conns := []api.Conn{over(0, stream), over(client, stream), over(1, stream), over(client), over(client, stream)}
					out, errno := b.Serve(conns, []int{pick, pick, pick, pick}, stop)
					if errno != api.OK && (errno != api.ErrClient || out != nil) || errno == api.OK && len(out) != len(conns) {
						t.Fatalf("P1: client %d, pick %d, stop %d: Serve = %v, %d", client, pick, stop, out, errno)
					}
				}
			}
		}
	}
}

func TestServeAtAllLists(t *testing.T) {
	r := rand.New(rand.NewSource(31))
	b := newBank(t, api.Config{Sizes: [4]int{200, 200, 200, 200}, Limit: 4, Rules: [][]api.Rule{allow(), nil}})
	for range 5000 {
		conns := make([]api.Conn, r.Intn(6))
		for i := range conns {
			conns[i].Client = r.Intn(2)
			for range r.Intn(4) {
				chunk := make([]byte, r.Intn(100))
				r.Read(chunk)
				clear(chunk[:r.Intn(len(chunk)+1)])
				conns[i].Chunks = append(conns[i].Chunks, chunk, layOut(r.Intn(65536), r.Intn(256), randomRequest(r, 210)))
			}
		}
		if out, errno := b.Serve(conns, randomPicks(r), r.Intn(20)-10); errno != api.OK || len(out) != len(conns) {
			t.Fatalf("P1: Serve(%v) = %v, %d", conns, out, errno)
		}
	}
}

func TestServeLongStreams(t *testing.T) {
	const many = 20000
	b := newBank(t, api.Config{Sizes: [4]int{0, 0, 0, 4}, Limit: 4, Rules: [][]api.Rule{allow()}})
	ask := layOut(1, 2, request(6, 3, 4))
	long := over(0, bytes.Repeat(ask, many))
	conns := append([]api.Conn{long, over(0, ask), long, long}, make([]api.Conn, 100000)...)
	out, errno := b.Serve(conns, []int{1, 2, 3}, -1)
	if errno != api.OK || len(out) != len(conns) {
		t.Fatalf("P8: Serve of %d connections = %d lists, %d", len(conns), len(out), errno)
	}
	for i, list := range out {
		if i < 4 && !bytes.Equal(list, conns[i].Chunks[0]) || i >= 4 && len(list) > 0 {
			t.Fatalf("P9: the connection %d has %d bytes of answers", i, len(list))
		}
	}
}

// TestServeWithoutBank: what New did not make serves no connection.
func TestServeWithoutBank(t *testing.T) {
	conns, _ := journal(2, 1)
	for _, b := range []*relay.Bank{nil, {}} {
		wantServe(t, b, nil, nil, -1)
		wantServe(t, b, conns, []int{1}, -1, nil, nil)
	}
}

// TestServeIsAlwaysAlike: how goroutines run is not to be seen in what comes out.
func TestServeIsAlwaysAlike(t *testing.T) {
	conns, _ := journal(5, 7, 3, 6)
	c := api.Config{Sizes: [4]int{0, 0, 0, 21}, Limit: 4, Rules: [][]api.Rule{allow()}}
	picks := []int{3, 1, 4, 1, 5, 9, 2, 6, 5, 3, 5}
	for stop := -1; stop < 22; stop += 2 {
		want := newModel(c).serve(c.Limit, conns, picks, stop)
		for _, cores := range []int{1, 2, 8} {
			old := runtime.GOMAXPROCS(cores)
			for range 20 {
				wantServe(t, newBank(t, c), conns, picks, stop, want...)
			}
			runtime.GOMAXPROCS(old)
		}
	}
}

// TestServesAtOnce: calls at the same time leave each request whole.
func TestServesAtOnce(t *testing.T) {
	b := newBank(t, api.Config{Sizes: [4]int{0, 0, 0, 100}, Limit: 4, Rules: [][]api.Rule{allow()}})
	var all sync.WaitGroup
	for i := range 4 {
		own := bytes.Repeat([]byte{byte(10 + i)}, 200)
		stream := bytes.Repeat(layOut(i, i, carrying(request(23, 0, 100, 0, 100), own...)), 20)
		want := bytes.Repeat(layOut(i, i, carrying([]byte{23}, own...)), 20)
		all.Go(func() {
			for range 30 {
				wantServe(t, b, []api.Conn{over(0, stream), over(0, stream)}, []int{1, 0, 1, 1, 0}, -1, want, want)
			}
		})
		all.Go(func() {
			for range 300 {
				if list, errno := b.Get(api.Holders, 0, 100); errno != api.OK || !allAlike(list) {
					t.Errorf("P8: Get, while others are served: %d, %v", errno, list)
				}
			}
		})
	}
	all.Wait()
}
