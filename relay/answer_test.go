package relay_test

import (
	"bytes"
	"math"
	"math/rand"
	"slices"
	"testing"

	"relay/api"
	"relay/relay"
)

func wantAnswer(t *testing.T, b *relay.Bank, client int, request []byte, want ...byte) {
	t.Helper()
	got, errno := b.Answer(client, request)
	if errno != api.OK || !bytes.Equal(got, want) {
		t.Errorf("P7: client %d: Answer(%v) = %v, %d, want %v", client, request, got, errno, want)
	}
}

func wantAnswerError(t *testing.T, b *relay.Bank, client int, request []byte, want api.Errno) {
	t.Helper()
	got, errno := b.Answer(client, request)
	if errno != want {
		t.Errorf("P7: client %d: Answer of %d bytes = %d, want %d", client, len(request), errno, want)
	}
	if got != nil {
		t.Errorf("P1: client %d: Answer of %d bytes = %v with an error, want nil", client, len(request), got)
	}
}

func reading(function, address, count int) []byte {
	return []byte{byte(function), byte(address / 256), byte(address % 256), byte(count / 256), byte(count % 256)}
}

// tableRead is the table that a function reads; below 0: it reads none.
func tableRead(function int) int {
	return []int{-1, api.Coils, api.Switches, api.Holders, api.Inputs}[function]
}

func TestReadsOfTheDocument(t *testing.T) {
	b := documentBank(t)
	wantSet(t, b, api.Coils, 3, api.OK, 1, 0, 1, 1, 0, 0, 1, 1, 1, 1)
	wantAnswer(t, b, 0, []byte{1, 0, 0, 0, 16}, 1, 2, 104, 30)
	wantSet(t, b, api.Holders, 7, api.OK, 258)
	wantAnswer(t, b, 0, []byte{3, 0, 6, 0, 2}, 3, 4, 0, 0, 1, 2)
	wantAnswer(t, b, 0, []byte{3, 0, 6, 0, 3}, 131, 2)
	wantAnswer(t, b, 0, []byte{3, 0, 6, 0, 0}, 131, 3)
	wantAnswer(t, b, 0, []byte{7}, 135, 1)
	wantAnswer(t, b, 0, []byte{3, 0, 6}, 131, 3)
	wantAnswer(t, b, 1, []byte{3, 0, 2, 0, 3}, 3, 6, 0, 0, 0, 0, 0, 0)
	wantAnswer(t, b, 1, []byte{3, 0, 1, 0, 2}, 131, 4)
	wantAnswer(t, b, 1, []byte{3, 0, 8, 0, 1}, 131, 2)
}

func TestNoSuchClient(t *testing.T) {
	long := make([]byte, 254)
	for clients := range 7 {
		b := newBank(t, api.Config{Limit: 1, Rules: make([][]api.Rule, clients)})
		for _, client := range append(outside(), clients, clients+1) {
			// The client is asked for ahead of the request.
			for _, request := range [][]byte{nil, {}, {1}, {1, 0, 0, 0, 1}, long} {
				wantAnswerError(t, b, client, request, api.ErrClient)
			}
		}
		for client := range clients {
			wantAnswer(t, b, client, []byte{7}, 135, 1)
		}
	}
}

func TestRequestsTooShortOrLong(t *testing.T) {
	b := documentBank(t)
	for _, n := range []int{0, 254, 255, 256, 257, 65536, 1 << 20} {
		wantAnswerError(t, b, 0, make([]byte, n), api.ErrFrame)
		wantAnswerError(t, b, 0, append(make([]byte, 0, n), bytes.Repeat([]byte{3}, n)...), api.ErrFrame)
	}
	wantAnswerError(t, b, 0, nil, api.ErrFrame)
	for _, n := range []int{1, 2, 252, 253} {
		wantAnswer(t, b, 0, bytes.Repeat([]byte{3}, n), 131, 3)
	}
}

func TestNoSuchFunction(t *testing.T) {
	b := documentBank(t)
	functions := []int{1, 2, 3, 4, 5, 6, 15, 16, 22, 23}
	for f := range 256 {
		if slices.Contains(functions, f) {
			continue
		}
		// The function is looked at ahead of what stands behind it.
		for _, behind := range [][]byte{nil, {0, 0, 0, 1}, {255, 255, 0, 0}, {1}, make([]byte, 252)} {
			for client := range 2 {
				wantAnswer(t, b, client, append([]byte{byte(f)}, behind...), byte(f|128), 1)
			}
		}
	}
}

func TestReadsOfWrongSize(t *testing.T) {
	b := newBank(t, api.Config{Sizes: [4]int{200, 200, 200, 200}, Limit: 1, Rules: [][]api.Rule{allow(), nil}})
	for f := 1; f <= 4; f++ {
		for n := range 253 {
			behind := make([]byte, n)
			if n >= 4 {
				behind[3] = 1
			}
			if n == 4 {
				continue
			}
			// What stands there is looked at ahead of the rules.
			for client := range 2 {
				wantAnswer(t, b, client, append([]byte{byte(f)}, behind...), byte(f|128), 3)
			}
		}
	}
}

func TestReadsOfAllCounts(t *testing.T) {
	b := newBank(t, api.Config{Sizes: [4]int{200, 200, 200, 200}, Limit: 1, Rules: [][]api.Rule{allow(), nil}})
	for f, most := range []int{1: 2000, 2: 2000, 3: 125, 4: 125} {
		if f == 0 {
			continue
		}
		bad := byte(f | 128)
		for count := range 65536 {
			switch {
			case count < 1 || count > most:
				// The count is looked at ahead of the address and of the rules.
				wantAnswer(t, b, 0, reading(f, 0, count), bad, 3)
				wantAnswer(t, b, 1, reading(f, 65535, count), bad, 3)
			case count > 200:
				wantAnswer(t, b, 0, reading(f, 0, count), bad, 2)
				wantAnswer(t, b, 1, reading(f, 0, count), bad, 2)
			default:
				if got, _ := b.Answer(0, reading(f, 0, count)); len(got) < 3 || got[0] != byte(f) {
					t.Errorf("P7: function %d with %d entries: %v", f, count, got)
				}
				wantAnswer(t, b, 1, reading(f, 0, count), bad, 4)
			}
		}
	}
}

func TestReadsOfAllAddresses(t *testing.T) {
	sizes := [4]int{20, 10, 5, 8}
	b := newBank(t, api.Config{Sizes: sizes, Limit: 1, Rules: [][]api.Rule{allow(), nil}})
	for f := 1; f <= 4; f++ {
		bad := byte(f | 128)
		size := sizes[tableRead(f)]
		for address := range 65536 {
			for _, count := range []int{1, 2, 5} {
				if address+count > size {
					wantAnswer(t, b, 0, reading(f, address, count), bad, 2)
					// The address is looked at ahead of the rules.
					wantAnswer(t, b, 1, reading(f, address, count), bad, 2)
				} else {
					wantAnswer(t, b, 1, reading(f, address, count), bad, 4)
				}
			}
		}
	}
}

// tell lays out the entries as the document says, by other means than the program's.
func tell(function int, entries []int) []byte {
	var told []byte
	if function >= 3 {
		for _, v := range entries {
			told = append(told, byte(v/256), byte(v%256))
		}
	} else {
		for bits := range slices.Chunk(entries, 8) {
			sum := 0
			for i, v := range bits {
				sum += v * int(math.Pow(2, float64(i)))
			}
			told = append(told, byte(sum))
		}
	}
	return append([]byte{byte(function), byte(len(told))}, told...)
}

func TestReadsOfFullTables(t *testing.T) {
	r := rand.New(rand.NewSource(8))
	b := newBank(t, api.Config{Sizes: [4]int{200, 200, 200, 200}, Limit: 1, Rules: [][]api.Rule{allow()}})
	var model [4][]int
	for table := range model {
		model[table] = make([]int, 200)
		for i := range model[table] {
			model[table][i] = r.Intn([]int{2, 2, 65536, 65536}[table])
		}
		wantSet(t, b, table, 0, api.OK, model[table]...)
	}
	for f := 1; f <= 4; f++ {
		list := model[tableRead(f)]
		for address := range 200 {
			for count := 1; count <= 200-address; count++ {
				if f <= 2 || count <= api.MaxReadWords {
					wantAnswer(t, b, 0, reading(f, address, count), tell(f, list[address:address+count])...)
				}
			}
		}
	}
	for table, list := range model {
		wantGet(t, b, table, 0, list...)
	}
}

func TestBitsLeftOverAreZero(t *testing.T) {
	b := documentBank(t)
	wantSet(t, b, api.Coils, 0, api.OK, slices.Repeat([]int{1}, 20)...)
	wantSet(t, b, api.Switches, 0, api.OK, slices.Repeat([]int{1}, 10)...)
	for _, f := range []byte{1, 2} {
		wantAnswer(t, b, 0, reading(int(f), 0, 1), f, 1, 1)
		wantAnswer(t, b, 0, reading(int(f), 1, 7), f, 1, 127)
		wantAnswer(t, b, 0, reading(int(f), 1, 8), f, 1, 255)
		wantAnswer(t, b, 0, reading(int(f), 1, 9), f, 2, 255, 1)
	}
	wantAnswer(t, b, 0, reading(1, 4, 16), 1, 2, 255, 255)
	wantAnswer(t, b, 0, reading(1, 3, 17), 1, 3, 255, 255, 1)
}

// randomRules gives rules that meet, lie over one another and leave gaps, of addresses up to 12.
func randomRules(r *rand.Rand) []api.Rule {
	list := make([]api.Rule, r.Intn(9))
	for i := range list {
		lo := r.Intn(11)
		list[i] = api.Rule{Table: r.Intn(4), Lo: lo, Hi: lo + r.Intn(4), Read: r.Intn(4) > 0, Write: r.Intn(2) == 0}
		if r.Intn(5) == 0 {
			list[i].Hi = 65535
		}
	}
	return list
}

func mayRead(list []api.Rule, table, address int) bool {
	may := false
	for _, rule := range list {
		may = may || rule.Table == table && rule.Lo <= address && address <= rule.Hi && rule.Read
	}
	return may
}

// TestRulesOfReads holds every read of small tables against the rules entry by entry.
func TestRulesOfReads(t *testing.T) {
	r := rand.New(rand.NewSource(9))
	for range 150 {
		lists := [][]api.Rule{randomRules(r), randomRules(r), randomRules(r)}
		b := newBank(t, api.Config{Sizes: [4]int{12, 12, 12, 12}, Limit: 1, Rules: lists})
		for client, list := range lists {
			for f := 1; f <= 4; f++ {
				for address := range 12 {
					may := true
					for count := 1; count <= 12-address; count++ {
						may = may && mayRead(list, tableRead(f), address+count-1)
						if may {
							wantAnswer(t, b, client, reading(f, address, count), tell(f, make([]int, count))...)
						} else {
							wantAnswer(t, b, client, reading(f, address, count), byte(f|128), 4)
						}
					}
				}
			}
		}
	}
}

func TestRulesToWriteLetNoReads(t *testing.T) {
	list := allow()
	for i := range list {
		list[i].Read = false
	}
	b := newBank(t, api.Config{Sizes: [4]int{9, 9, 9, 9}, Limit: 1, Rules: [][]api.Rule{list, allow()}})
	for f := 1; f <= 4; f++ {
		wantAnswer(t, b, 0, reading(f, 0, 1), byte(f|128), 4)
		wantAnswer(t, b, 1, reading(f, 0, 1), tell(f, []int{0})...)
	}
}

// TestSetAndGetAskNoRules: a bank without clients is set and asked all the same.
func TestSetAndGetAskNoRules(t *testing.T) {
	for _, lists := range [][][]api.Rule{nil, {nil}, {{{Table: 0, Lo: 5, Hi: 6}}}} {
		b := newBank(t, api.Config{Sizes: [4]int{9, 9, 9, 9}, Limit: 1, Rules: lists})
		for table := range api.Tables {
			wantSet(t, b, table, 4, api.OK, 1, 1, 1)
			wantGet(t, b, table, 3, 0, 1, 1, 1, 0)
		}
	}
}
