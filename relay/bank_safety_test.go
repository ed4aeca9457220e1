package relay_test

import (
	"bytes"
	"math/rand"
	"runtime"
	"slices"
	"sync"
	"testing"

	"relay/api"
	"relay/relay"
)

func TestBankAtAllNumbers(t *testing.T) {
	r := rand.New(rand.NewSource(10))
	numbers := append(outside(), 0, 1, 2, 3, 4, 7, 8, 9, 199, 200)
	for _, sizes := range [][4]int{{}, {200, 200, 200, 200}, {0, 1, 7, 8}} {
		b := newBank(t, api.Config{Sizes: sizes, Limit: 4, Rules: [][]api.Rule{allow(), nil}})
		for _, table := range numbers {
			for _, address := range numbers {
				for _, n := range numbers {
					b.Set(table, address, []int{n})
					b.Set(table, address, make([]int, r.Intn(300)))
					if got, errno := b.Get(table, address, n); errno != api.OK && got != nil {
						t.Fatalf("P1: Get(%d, %d, %d) = %v with an error, want nil", table, address, n, got)
					}
				}
			}
		}
	}
}

func TestAnswerAtAllLists(t *testing.T) {
	r := rand.New(rand.NewSource(11))
	b := newBank(t, api.Config{Sizes: [4]int{200, 200, 200, 200}, Limit: 4, Rules: [][]api.Rule{allow(), nil}})
	for range 200000 {
		request := make([]byte, r.Intn(12))
		if r.Intn(50) == 0 {
			request = make([]byte, r.Intn(400))
		}
		r.Read(request)
		if len(request) > 4 && r.Intn(4) > 0 {
			request[0], request[1], request[3] = byte(r.Intn(26)), 0, 0
		}
		if r.Intn(4) == 0 {
			request = randomRequest(r, 210)
		}
		client := r.Intn(4) - 1
		got, errno := b.Answer(client, request)
		if errno != api.OK && got != nil || errno == api.OK && (len(got) < 2 || len(got) > api.MaxData) {
			t.Fatalf("P1: client %d: Answer(%v) = %v, %d", client, request, got, errno)
		}
	}
}

func TestReadsChangeNothing(t *testing.T) {
	b := documentBank(t)
	sizes := []int{20, 10, 5, 8}
	for table, size := range sizes {
		wantSet(t, b, table, 0, api.OK, slices.Repeat([]int{1}, size)...)
	}
	for f := 1; f <= 4; f++ {
		for _, request := range [][]byte{{byte(f)}, reading(f, 0, 1), reading(f, 0, 5), reading(f, 0, 0), reading(f, 4, 9), reading(f, 300, 1)} {
			for client := range 3 {
				b.Answer(client, request)
				b.Answer(client, append(request, 0, 0))
			}
		}
	}
	for table, size := range sizes {
		wantGet(t, b, table, 0, slices.Repeat([]int{1}, size)...)
	}
}

// TestWithoutBank: what New did not make has no tables and no clients.
func TestWithoutBank(t *testing.T) {
	for _, b := range []*relay.Bank{nil, {}} {
		wantSet(t, b, 0, 0, api.ErrTable)
		wantSet(t, b, 3, 0, api.ErrTable, 1)
		wantGetError(t, b, 0, 0, 0, api.ErrTable)
		wantAnswerError(t, b, 0, nil, api.ErrClient)
		wantAnswerError(t, b, 0, []byte{1, 0, 0, 0, 1}, api.ErrClient)
	}
}

// allAlike says whether a list is not empty and its entries are one number.
func allAlike[E comparable](list []E) bool { return len(slices.Compact(list)) == 1 }

// TestCallsAtOnce: each call is done as a whole, so that none sees half of what another sets.
func TestCallsAtOnce(t *testing.T) {
	const size, times = 120, 4000
	b := newBank(t, api.Config{Sizes: [4]int{size, 0, 0, size}, Limit: 1, Rules: [][]api.Rule{allow()}})
	var all sync.WaitGroup
	for i := range 3 {
		holders, coils := slices.Repeat([]int{i * 257}, size), slices.Repeat([]int{i % 2}, size)
		all.Go(func() {
			for range times {
				b.Set(api.Holders, 0, holders)
				b.Set(api.Coils, 0, coils)
			}
		})
		all.Go(func() {
			for range times {
				if list, errno := b.Get(api.Holders, 0, size); errno != api.OK || !allAlike(list) {
					t.Errorf("P6: Get, while others set: %d, %v", errno, list)
				}
			}
		})
		all.Go(func() {
			for range times {
				if words, errno := b.Answer(0, reading(3, 0, size)); errno != api.OK || !allAlike(words[2:]) {
					t.Errorf("P7: an answer, while others set: %d, %v", errno, words)
				}
				if bits, errno := b.Answer(0, reading(1, 0, size)); errno != api.OK || !allAlike(bits[2:]) {
					t.Errorf("P7: an answer, while others set: %d, %v", errno, bits)
				}
			}
		})
	}
	all.Wait()
}

// TestWritesAtOnce: requests that write are done as a whole too.
func TestWritesAtOnce(t *testing.T) {
	const times = 2000
	b := newBank(t, api.Config{Sizes: [4]int{120, 0, 0, 121}, Limit: 1, Rules: [][]api.Rule{allow()}})
	var all sync.WaitGroup
	for i := range 4 {
		own := bytes.Repeat([]byte{byte(10 + i)}, 2*100)
		all.Go(func() {
			for range times {
				// No other's words come between what is written and what is read.
				answer, _ := b.Answer(0, carrying(request(23, 0, 100, 0, 100), own...))
				if !bytes.Equal(answer[2:], own) {
					t.Errorf("P7: an answer of 23, while others write: %v, want %v", answer[2:], own)
				}
				b.Answer(0, carrying(request(15, 0, 120), bytes.Repeat([]byte{byte(255 * (i % 2))}, 15)...))
				if answer, _ := b.Answer(0, reading(1, 0, 120)); !allAlike(answer[2:]) {
					t.Errorf("P7: coils, while others write: %v", answer[2:])
				}
			}
		})
		all.Go(func() {
			for n := range times {
				// Each turns bits of its own on and off: none is lost by what the others do.
				bit := 1 << (4*i + n%4)
				b.Answer(0, request(22, 120, 65535-bit, bit))
				holder, _ := b.Get(api.Holders, 120, 1)
				if holder[0]&bit == 0 {
					t.Errorf("P7: a bit that 22 set, while others set theirs, is lost: %b of %b", bit, holder[0])
				}
				b.Answer(0, request(22, 120, 65535-bit, 0))
			}
		})
	}
	all.Wait()
	wantGet(t, b, api.Holders, 120, 0)
}

func TestNothingOfTheBankGoesOn(t *testing.T) {
	before := runtime.NumGoroutine()
	for range 100 {
		b := documentBank(t)
		b.Set(api.Coils, 0, []int{1})
		b.Get(api.Coils, 0, 1)
		b.Answer(0, reading(1, 0, 1))
		b.Answer(0, reading(1, 99, 1))
		for _, q := range append(writes(3), writes(99)...) {
			b.Answer(0, q)
			b.Answer(1, q)
		}
	}
	if after := runtime.NumGoroutine(); after > before {
		t.Errorf("P1: %d goroutines, %d before the calls", after, before)
	}
}
