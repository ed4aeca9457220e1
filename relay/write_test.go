package relay_test

import (
	"bytes"
	"fmt"
	"slices"
	"testing"

	"relay/api"
	"relay/relay"
)

// request gives a function with words behind it.
func request(function int, words ...int) []byte {
	q := []byte{byte(function)}
	for _, w := range words {
		q = append(q, byte(w/256), byte(w%256))
	}
	return q
}

// carrying puts a byte, how many bytes there are, and the bytes behind a request.
func carrying(q []byte, packed ...byte) []byte {
	return append(append(q, byte(len(packed))), packed...)
}

// wideBank has tables of the greatest size, a client that may do all and one that may do nothing.
func wideBank(t *testing.T) *relay.Bank {
	t.Helper()
	return newBank(t, api.Config{Sizes: [4]int{200, 200, 200, 200}, Limit: 1, Rules: [][]api.Rule{allow(), nil}})
}

// wantUnchanged holds all tables to what they were.
func wantUnchanged(t *testing.T, b *relay.Bank, m *model, after string) {
	t.Helper()
	for table, list := range m.tables {
		if got, _ := b.Get(table, 0, len(list)); !slices.Equal(got, list) {
			t.Fatalf("P7: after %s the table %d is %v, want %v", after, table, got, list)
		}
	}
}

// snapshot gives what is in the tables of a bank.
func snapshot(t *testing.T, b *relay.Bank, sizes [4]int) *model {
	t.Helper()
	m := &model{}
	for table, size := range sizes {
		list, errno := b.Get(table, 0, size)
		if errno != api.OK {
			t.Fatalf("P6: Get(%d, 0, %d) = %d", table, size, errno)
		}
		m.tables[table] = list
	}
	return m
}

func TestWritesOfTheDocument(t *testing.T) {
	b := documentBank(t)
	wantAnswer(t, b, 0, []byte{15, 0, 3, 0, 10, 2, 205, 255}, 15, 0, 3, 0, 10)
	wantGet(t, b, api.Coils, 0, 0, 0, 0, 1, 0, 1, 1, 0, 0, 1, 1, 1, 1, 0, 0, 0, 0, 0, 0, 0)
	wantAnswer(t, b, 0, []byte{1, 0, 0, 0, 16}, 1, 2, 104, 30)
	wantAnswer(t, b, 0, []byte{5, 0, 19, 255, 0}, 5, 0, 19, 255, 0)
	wantAnswer(t, b, 0, []byte{5, 0, 19, 1, 0}, 133, 3)
	wantAnswer(t, b, 0, []byte{5, 0, 20, 255, 0}, 133, 2)
	wantGet(t, b, api.Coils, 13, 0, 0, 0, 0, 0, 0, 1)
	wantAnswer(t, b, 0, []byte{6, 0, 7, 1, 2}, 6, 0, 7, 1, 2)
	wantAnswer(t, b, 0, []byte{3, 0, 6, 0, 2}, 3, 4, 0, 0, 1, 2)
	wantSet(t, b, api.Holders, 2, api.OK, 18)
	wantAnswer(t, b, 0, []byte{22, 0, 2, 0, 242, 0, 37}, 22, 0, 2, 0, 242, 0, 37)
	wantGet(t, b, api.Holders, 2, 23)
	wantAnswer(t, b, 0, []byte{23, 0, 0, 0, 2, 0, 1, 0, 1, 2, 9, 9}, 23, 4, 0, 0, 9, 9)
	wantAnswer(t, b, 1, []byte{6, 0, 3, 0, 5}, 6, 0, 3, 0, 5)
	wantAnswer(t, b, 1, []byte{6, 0, 2, 0, 5}, 134, 4)
	wantAnswer(t, b, 1, []byte{3, 0, 2, 0, 3}, 3, 6, 0, 23, 0, 5, 0, 0)
	wantAnswer(t, b, 1, []byte{22, 0, 3, 0, 0, 0, 0}, 22, 0, 3, 0, 0, 0, 0)
	wantGet(t, b, api.Holders, 0, 0, 2313, 23, 0, 0, 0, 0, 258)
}

func TestCoilBecomesEachWord(t *testing.T) {
	b := documentBank(t)
	for v := range 65536 {
		for _, before := range []int{0, 1} {
			wantSet(t, b, api.Coils, 7, api.OK, before)
			switch v {
			case 0, 65280:
				wantAnswer(t, b, 0, request(5, 7, v), request(5, 7, v)...)
				wantGet(t, b, api.Coils, 6, 0, v/65280, 0)
				wantAnswer(t, b, 1, request(5, 7, v), 133, 4)
			default:
				wantAnswer(t, b, 0, request(5, 7, v), 133, 3)
				// The word is looked at ahead of the address and of the rules.
				wantAnswer(t, b, 1, request(5, 65535, v), 133, 3)
				wantGet(t, b, api.Coils, 6, 0, before, 0)
			}
		}
	}
}

func TestHolderBecomesEachWord(t *testing.T) {
	b := documentBank(t)
	for v := range 65536 {
		wantAnswer(t, b, 0, request(6, 4, v), request(6, 4, v)...)
		wantGet(t, b, api.Holders, 3, 0, v, 0)
		wantAnswer(t, b, 0, carrying(request(16, 3, 1), byte(v/256), byte(v%256)), 16, 0, 3, 0, 1)
		wantGet(t, b, api.Holders, 2, 0, v, v)
		wantAnswer(t, b, 0, carrying(request(16, 3, 2), 0, 0, 0, 0), 16, 0, 3, 0, 2)
	}
}

// writes are requests by each of the functions that write, of one entry, or that read one too.
func writes(address int) [][]byte {
	return [][]byte{
		request(5, address, 65280),
		request(6, address, 258),
		carrying(request(15, address, 1), 1),
		carrying(request(16, address, 1), 1, 2),
		request(22, address, 255, 258),
		carrying(request(23, 0, 1, address, 1), 1, 2),
		carrying(request(23, address, 1, 0, 1), 1, 2),
	}
}

func TestWritesOfAllAddresses(t *testing.T) {
	sizes := [4]int{20, 10, 5, 8}
	b := newBank(t, api.Config{Sizes: sizes, Limit: 1, Rules: [][]api.Rule{allow(), nil}})
	for address := range 65536 {
		for _, q := range writes(address) {
			size := sizes[api.Holders]
			if q[0] == 5 || q[0] == 15 {
				size = sizes[api.Coils]
			}
			before := snapshot(t, b, sizes)
			if address < size {
				wantAnswer(t, b, 1, q, q[0]|128, 4)
				wantUnchanged(t, b, before, "a request that is denied")
				if got, _ := b.Answer(0, q); len(got) < 4 || got[0] != q[0] {
					t.Errorf("P7: Answer(%v) = %v", q, got)
				}
				continue
			}
			wantAnswer(t, b, 0, q, q[0]|128, 2)
			// The address is looked at ahead of the rules.
			wantAnswer(t, b, 1, q, q[0]|128, 2)
			wantUnchanged(t, b, before, "a request of no entry")
		}
	}
}

// TestWritesAtTheEnd: spans that end with the table are done, those that go past it are not, not even in part.
func TestWritesAtTheEnd(t *testing.T) {
	sizes := [4]int{20, 0, 0, 8}
	for _, c := range []struct {
		fits, over []byte
	}{
		{carrying(request(15, 18, 2), 3), carrying(request(15, 18, 3), 7)},
		{carrying(request(15, 0, 20), 255, 255, 255), carrying(request(15, 0, 21), 255, 255, 255)},
		{carrying(request(16, 6, 2), 1, 1, 1, 1), carrying(request(16, 6, 3), 1, 1, 1, 1, 1, 1)},
		{carrying(request(23, 7, 1, 7, 1), 1, 1), carrying(request(23, 7, 1, 7, 2), 1, 1, 1, 1)},
		{carrying(request(23, 0, 8, 6, 2), 1, 1, 1, 1), carrying(request(23, 0, 9, 6, 2), 1, 1, 1, 1)},
		{carrying(request(23, 7, 1, 0, 1), 1, 1), carrying(request(23, 7, 2, 0, 1), 1, 1)},
	} {
		b := newBank(t, api.Config{Sizes: sizes, Limit: 1, Rules: [][]api.Rule{allow(), nil}})
		for client := range 2 {
			wantAnswer(t, b, client, c.over, c.over[0]|128, 2)
		}
		wantGet(t, b, api.Coils, 0, make([]int, 20)...)
		wantGet(t, b, api.Holders, 0, make([]int, 8)...)
		if got, errno := b.Answer(0, c.fits); errno != api.OK || len(got) < 4 || got[0] != c.fits[0] {
			t.Errorf("P7: Answer(%v) = %v, %d, want it done", c.fits, got, errno)
		}
	}
}

// TestWritesOfEmptyTables: no entry is there, whatever the address.
func TestWritesOfEmptyTables(t *testing.T) {
	b := newBank(t, api.Config{Limit: 1, Rules: [][]api.Rule{allow(), nil}})
	for _, address := range []int{0, 1, 255, 256, 65535} {
		for _, q := range writes(address) {
			for client := range 2 {
				wantAnswer(t, b, client, q, q[0]|128, 2)
			}
		}
	}
}

// TestWritesOfAllSizes: a request that is cut or drawn out, byte by byte, is told Value.
func TestWritesOfAllSizes(t *testing.T) {
	b := wideBank(t)
	good := append(writes(3),
		carrying(request(15, 3, 33), 1, 2, 3, 4, 5),
		carrying(request(16, 3, 3), 1, 2, 3, 4, 5, 6),
		carrying(request(23, 3, 3, 4, 2), 1, 2, 3, 4),
		carrying(request(16, 3, 123), make([]byte, 246)...),
		carrying(request(23, 3, 125, 4, 121), make([]byte, 242)...),
	)
	before := snapshot(t, b, [4]int{200, 200, 200, 200})
	for _, q := range good {
		long := append(bytes.Clone(q), make([]byte, 253-len(q))...)
		for n := 1; n <= 253; n++ {
			if n == len(q) {
				continue
			}
			// What stands there is looked at ahead of the rules.
			for client := range 2 {
				wantAnswer(t, b, client, long[:n], q[0]|128, 3)
			}
		}
	}
	wantUnchanged(t, b, before, "requests of wrong sizes")
	for _, q := range good {
		wantAnswer(t, b, 1, q, q[0]|128, 4)
		if got, _ := b.Answer(0, q); len(got) < 4 || got[0] != q[0] {
			t.Errorf("P7: Answer(%v) = %v, want it done", q, got)
		}
	}
}

// wantCounted holds a request to its number of entries: done, if the number is as it may be and
// the entries are there; whatever the number, the byte that tells the size, and the bytes, must fit it.
func wantCounted(t *testing.T, b *relay.Bank, q []byte, may, there bool) {
	t.Helper()
	switch {
	case !may:
		wantAnswer(t, b, 0, q, q[0]|128, 3)
		wantAnswer(t, b, 1, q, q[0]|128, 3)
	case !there:
		wantAnswer(t, b, 0, q, q[0]|128, 2)
		wantAnswer(t, b, 1, q, q[0]|128, 2)
	default:
		wantAnswer(t, b, 1, q, q[0]|128, 4)
		if got, errno := b.Answer(0, q); errno != api.OK || len(got) < 4 || got[0] != q[0] {
			t.Errorf("P7: Answer(%v) = %v, %d, want it done", q, got, errno)
		}
	}
}

func TestCoilsOfAllCounts(t *testing.T) {
	b := wideBank(t)
	for count := range 65536 {
		size := (count + 7) / 8
		// From 1977 on there is no room in a request, nor in a byte, for all the bits.
		room := min(size, 247)
		wantCounted(t, b, carrying(request(15, 0, count), make([]byte, room)...), 1 <= count && count <= 1968, count <= 200)
		for _, wrong := range []int{room - 1, room + 1} {
			if 0 <= wrong && wrong <= 247 {
				wantCounted(t, b, carrying(request(15, 0, count), make([]byte, wrong)...), false, false)
			}
		}
	}
}

func TestHoldersOfAllCounts(t *testing.T) {
	b := wideBank(t)
	for count := range 65536 {
		room := min(2*count, 246)
		wantCounted(t, b, carrying(request(16, 0, count), make([]byte, room)...), 1 <= count && count <= 123, count <= 200)
		for _, wrong := range []int{room - 2, room - 1, room + 1, count} {
			if 0 <= wrong && wrong <= 247 && wrong != room {
				wantCounted(t, b, carrying(request(16, 0, count), make([]byte, wrong)...), false, false)
			}
		}
	}
}

func TestBothOfAllCounts(t *testing.T) {
	b := wideBank(t)
	for count := range 65536 {
		room := min(2*count, 242)
		wantCounted(t, b, carrying(request(23, 0, 1, 0, count), make([]byte, room)...), 1 <= count && count <= 121, true)
		wantCounted(t, b, carrying(request(23, 0, count, 0, 1), 0, 0), 1 <= count && count <= 125, true)
		for _, wrong := range []int{room - 2, room - 1, room + 1, count} {
			if 0 <= wrong && wrong <= 243 && wrong != room {
				wantCounted(t, b, carrying(request(23, 0, 1, 0, count), make([]byte, wrong)...), false, false)
			}
		}
	}
	wantCounted(t, b, carrying(request(23, 0, 125, 0, 121), make([]byte, 242)...), true, true)
	wantCounted(t, b, carrying(request(23, 65535, 126, 65535, 121), make([]byte, 242)...), false, false)
	wantCounted(t, b, carrying(request(23, 65535, 0, 65535, 121), make([]byte, 242)...), false, false)
}

// TestSizeByteMustFit: the byte that tells how many bytes there are is held to what is there, and to the count.
func TestSizeByteMustFit(t *testing.T) {
	b := wideBank(t)
	for _, q := range [][]byte{
		carrying(request(15, 0, 9), 1, 1),
		carrying(request(15, 0, 8), 1),
		carrying(request(16, 0, 2), 1, 1, 1, 1),
		carrying(request(23, 0, 1, 0, 2), 1, 1, 1, 1),
	} {
		place := 5
		if q[0] == 23 {
			place = 9
		}
		right := q[place]
		for c := range 256 {
			q[place] = byte(c)
			wantCounted(t, b, q, byte(c) == right, true)
		}
	}
}

func TestWrittenBits(t *testing.T) {
	for address := range 20 {
		for count := 1; count <= 30; count++ {
			for _, fill := range []int{0, 1} {
				b := newBank(t, api.Config{Sizes: [4]int{60, 60, 60, 60}, Limit: 1, Rules: [][]api.Rule{allow()}})
				want := slices.Repeat([]int{fill}, 60)
				wantSet(t, b, api.Coils, 0, api.OK, want...)
				// Bits that are left over are 1 here, and are not looked at.
				packed := bytes.Repeat([]byte{0xFF}, (count+7)/8)
				for i := range count {
					want[address+i] = 1
					if i%3 == 0 || i%7 == 2 {
						want[address+i] = 0
						packed[i/8] -= 1 << (i % 8)
					}
				}
				q := carrying(request(15, address, count), packed...)
				wantAnswer(t, b, 0, q, q[:5]...)
				wantGet(t, b, api.Coils, 0, want...)
				wantGet(t, b, api.Switches, 0, make([]int, 60)...)
			}
		}
	}
}

func TestWrittenWords(t *testing.T) {
	b := wideBank(t)
	for _, count := range []int{1, 2, 3, 50, 122, 123} {
		for _, address := range []int{0, 1, 70, 200 - count} {
			want := slices.Repeat([]int{7}, 200)
			wantSet(t, b, api.Holders, 0, api.OK, want...)
			var packed []byte
			for i := range count {
				want[address+i] = (i*40503 + count) % 65536
				packed = append(packed, byte(want[address+i]/256), byte(want[address+i]%256))
			}
			q := carrying(request(16, address, count), packed...)
			wantAnswer(t, b, 0, q, q[:5]...)
			wantGet(t, b, api.Holders, 0, want...)
			wantGet(t, b, api.Inputs, 0, make([]int, 200)...)
		}
	}
}

func TestMaskedHolders(t *testing.T) {
	b := documentBank(t)
	numbers := []int{0, 1, 2, 3, 255, 256, 257, 4660, 21845, 32767, 32768, 43690, 65280, 65534, 65535}
	for _, old := range numbers {
		for _, x := range numbers {
			for _, y := range numbers {
				wantSet(t, b, api.Holders, 4, api.OK, 9, old, 9)
				wantAnswer(t, b, 0, request(22, 5, x, y), request(22, 5, x, y)...)
				wantGet(t, b, api.Holders, 4, 9, masked(old, x, y), 9)
			}
		}
	}
}

// TestBothWritesFirst: where the spans meet, what was written is read.
func TestBothWritesFirst(t *testing.T) {
	for a := range 8 {
		for n := 1; n <= 8-a; n++ {
			for from := range 8 {
				for m := 1; m <= 8-from; m++ {
					b := documentBank(t)
					want := []int{300, 301, 302, 303, 304, 305, 306, 307}
					wantSet(t, b, api.Holders, 0, api.OK, want...)
					var packed []byte
					for i := range m {
						want[from+i] = 600 + i
						packed = append(packed, byte(want[from+i]/256), byte(want[from+i]%256))
					}
					wantAnswer(t, b, 0, carrying(request(23, a, n, from, m), packed...), tell(23, want[a:a+n])...)
					wantGet(t, b, api.Holders, 0, want...)
				}
			}
		}
	}
}

// TestRightsApart: reading and writing are two things, held to the rules entry by entry.
func TestRightsApart(t *testing.T) {
	only := func(read, write bool) []api.Rule {
		list := allow()
		for i := range list {
			list[i].Read, list[i].Write = read, write
		}
		return list
	}
	b := newBank(t, api.Config{Sizes: [4]int{9, 9, 9, 9}, Limit: 1, Rules: [][]api.Rule{
		only(false, false), only(true, false), only(false, true), only(true, true),
		append(only(true, false)[:3:3], only(false, true)...),
		append(only(true, false), only(false, true)...),
	}})
	for _, q := range append(writes(4), reading(1, 4, 1), reading(2, 4, 1), reading(3, 4, 1), reading(4, 4, 1)) {
		isRead, isWrite := q[0] < 5 || q[0] >= 22, q[0] >= 5
		for client, may := range []bool{
			false, !isWrite, !isRead, true,
			// The fifth client may read all but the holders.
			!isRead || q[0] == 1 || q[0] == 2 || q[0] == 4,
			true,
		} {
			got, errno := b.Answer(client, q)
			if errno != api.OK || may && got[0] != q[0] || !may && !bytes.Equal(got, []byte{q[0] | 128, 4}) {
				t.Errorf("P7: client %d: Answer(%v) = %v, %d, want it done: %t", client, q, got, errno, may)
			}
		}
	}
}

// TestDeniedInPart: one entry that may not be written, or read, keeps the whole from being done.
func TestDeniedInPart(t *testing.T) {
	for hole := range 9 {
		var list []api.Rule
		for _, table := range []int{api.Coils, api.Holders} {
			if hole > 0 {
				list = append(list, api.Rule{Table: table, Hi: hole - 1, Read: true, Write: true})
			}
			list = append(list, api.Rule{Table: table, Lo: hole + 1, Hi: 65535, Read: true, Write: true})
		}
		b := newBank(t, api.Config{Sizes: [4]int{9, 0, 0, 9}, Limit: 1, Rules: [][]api.Rule{list}})
		before := snapshot(t, b, [4]int{9, 0, 0, 9})
		for a := range 9 {
			for n := 1; n <= 9-a; n++ {
				if a > hole || a+n <= hole {
					continue
				}
				beside := (hole + 1) % 9
				for _, q := range [][]byte{
					carrying(request(15, a, n), []byte{255, 255}[:(n+7)/8]...),
					carrying(request(16, a, n), bytes.Repeat([]byte{1}, 2*n)...),
					carrying(request(23, beside, 1, a, n), bytes.Repeat([]byte{1}, 2*n)...),
					carrying(request(23, a, n, beside, 1), 1, 1),
				} {
					wantAnswer(t, b, 0, q, q[0]|128, 4)
					wantUnchanged(t, b, before, fmt.Sprint(q))
				}
			}
		}
	}
}

// TestRulesOfOtherTables: what may be done with one table says nothing of another.
func TestRulesOfOtherTables(t *testing.T) {
	list := allow()
	b := newBank(t, api.Config{Sizes: [4]int{9, 9, 9, 9}, Limit: 1, Rules: [][]api.Rule{list[:1], list[1:2], list[2:3], list[3:]}})
	for _, q := range writes(4) {
		for client := range api.Tables {
			if client == api.Coils && (q[0] == 5 || q[0] == 15) || client == api.Holders && q[0] != 5 && q[0] != 15 {
				if got, _ := b.Answer(client, q); len(got) < 4 || got[0] != q[0] {
					t.Errorf("P7: client %d: Answer(%v) = %v, want it done", client, q, got)
				}
				continue
			}
			wantAnswer(t, b, client, q, q[0]|128, 4)
		}
	}
}

// TestWritesWithoutClient: what is not answered is not done.
func TestWritesWithoutClient(t *testing.T) {
	sizes := [4]int{20, 10, 5, 8}
	b := documentBank(t)
	before := snapshot(t, b, sizes)
	for _, q := range writes(4) {
		for _, client := range append(outside(), 2) {
			wantAnswerError(t, b, client, q, api.ErrClient)
		}
		wantAnswerError(t, b, 0, append(q, make([]byte, 254-len(q))...), api.ErrFrame)
	}
	wantUnchanged(t, b, before, "requests of no client, or too long")
}
