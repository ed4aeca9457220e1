// Package turns serves connections: of the requests that come over them
// one is done after the other, in the order in which they are picked.
package turns

import (
	"math"
	"slices"
	"sync"

	"relay/api"
)

// Answer does a request of a client, and gives the answer as it can stand in a frame.
type Answer func(client int, request []byte) []byte

// Serve does the requests of the connections (if stop is 0 or above, no more
// than that many), and gives for each connection its answers in frames.
func Serve(conns []api.Conn, picks []int, stop int, answer Answer) [][]byte {
	var running sync.WaitGroup
	end := make(chan struct{})
	all := make([]*connection, len(conns))
	for i, conn := range conns {
		c := newConnection(conn.Client)
		all[i] = c
		running.Go(func() { c.serve(conn.Chunks, answer, end) })
	}
	giveTurns(all, picks, stop)
	// No turn is under way any more, so that no goroutine has both to choose from.
	close(end)
	running.Wait()
	return answersOf(all)
}

// giveTurns ends when no requests are left, or as many as may be are done.
func giveTurns(all []*connection, picks []int, stop int) {
	open := withRequests(all)
	for n := 0; len(open) > 0 && (stop < 0 || n < stop); n++ {
		at := place(picks, n, len(open))
		if !open[at].takeTurn() {
			open = slices.Delete(open, at, at+1)
		}
	}
}

// withRequests keeps the order of the connections: picks count them in it.
func withRequests(all []*connection) []*connection {
	var open []*connection
	for _, c := range all {
		if <-c.left {
			open = append(open, c)
		}
	}
	return open
}

// place says at which of count places the connection stands whose turn is the nth.
func place(picks []int, n, count int) int {
	if n >= len(picks) || picks[n] == math.MinInt {
		// The least number has no absolute value among the numbers.
		return 0
	}
	return max(picks[n], -picks[n]) % count
}

func answersOf(all []*connection) [][]byte {
	answers := make([][]byte, len(all))
	for i, c := range all {
		answers[i] = c.answers
	}
	return answers
}
