package turns_test

import (
	"bytes"
	"runtime"
	"slices"
	"strings"
	"sync/atomic"
	"testing"

	"relay/api"
	"relay/turns"
)

// asking gives a connection of a client with requests of a byte each.
func asking(client int, requests ...byte) api.Conn {
	var stream []byte
	for _, r := range requests {
		stream = append(stream, 1, r, 0, 0, 0, 2, 9, r)
	}
	return api.Conn{Client: client, Chunks: [][]byte{stream}}
}

// goroutine gives the name of the one that calls it.
func goroutine() string {
	trace := make([]byte, 100)
	trace = trace[:runtime.Stack(trace, false)]
	return strings.Fields(string(trace))[1]
}

// TestOneGoroutineEach: a connection is served by one of its own, and none by the caller's.
func TestOneGoroutineEach(t *testing.T) {
	conns := []api.Conn{asking(0, 1, 2, 3), asking(1, 4, 5), asking(2, 6, 7, 8), asking(3, 9)}
	served := map[int][]string{}
	turns.Serve(conns, []int{1, 2, 3, 0, 1, 2}, -1, func(client int, request []byte) []byte {
		served[client] = append(served[client], goroutine())
		return request
	})
	seen := []string{goroutine()}
	for client, count := range []int{3, 2, 3, 1} {
		names := served[client]
		if len(names) != count || len(slices.Compact(slices.Clone(names))) != 1 || slices.Contains(seen, names[0]) {
			t.Errorf("Ways: the connection %d is served by %v, those ahead of it and the caller are %v", client, names, seen)
		}
		seen = append(seen, names...)
	}
}

// TestOneAtATime: the turns come in the order of the picks, and no two at once.
func TestOneAtATime(t *testing.T) {
	conns := []api.Conn{asking(5, 1, 2, 3), asking(6), asking(5, 4, 5), asking(7, 6)}
	var under atomic.Int32
	var order []byte
	out := turns.Serve(conns, []int{2, -1, 0, 1}, 5, func(client int, request []byte) []byte {
		if under.Add(1) != 1 {
			t.Errorf("P8: %v of the client %d is done at the same time as another", request, client)
		}
		runtime.Gosched()
		order = append(order, byte(client), request[0])
		under.Add(-1)
		return []byte{request[0], 100}
	})
	if want := []byte{7, 6, 5, 4, 5, 1, 5, 5, 5, 2}; !bytes.Equal(order, want) {
		t.Errorf("P8: clients and requests in the order %v, want %v", order, want)
	}
	want := [][]byte{
		{1, 1, 0, 0, 0, 3, 9, 1, 100, 1, 2, 0, 0, 0, 3, 9, 2, 100},
		nil,
		{1, 4, 0, 0, 0, 3, 9, 4, 100, 1, 5, 0, 0, 0, 3, 9, 5, 100},
		{1, 6, 0, 0, 0, 3, 9, 6, 100},
	}
	if !slices.EqualFunc(out, want, bytes.Equal) {
		t.Errorf("P9: %v, want %v", out, want)
	}
}
