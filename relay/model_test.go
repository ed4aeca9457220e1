package relay_test

import (
	"bytes"
	"math/rand"
	"slices"
	"testing"

	"relay/api"
	"relay/relay"
)

// model is a second reading of the document: plain lists, and requests done entry by entry.
type model struct {
	tables [4][]int
	rules  [][]api.Rule
}

func newModel(c api.Config) *model {
	m := &model{rules: c.Rules}
	for table, size := range c.Sizes {
		m.tables[table] = make([]int, size)
	}
	return m
}

func wordAt(list []byte, place int) int { return int(list[place])*256 + int(list[place+1]) }

func wordsAt(list []byte, place, count int) []int {
	var all []int
	for i := range count {
		all = append(all, wordAt(list, place+2*i))
	}
	return all
}

func bitsAt(list []byte, place, count int) []int {
	var all []int
	for i := range count {
		all = append(all, int(list[place+i/8])/(1<<(i%8))%2)
	}
	return all
}

// span gives the addresses of count entries from address on.
func span(address, count int) []int {
	var all []int
	for i := range count {
		all = append(all, address+i)
	}
	return all
}

func (m *model) answer(client int, q []byte) []byte {
	if exception := m.exception(client, q); exception != 0 {
		return []byte{q[0] | 128, exception}
	}
	table, reads, writes := touched(q)
	list := m.tables[table]
	for i, v := range becomes(q, list) {
		list[writes[i]] = v
	}
	switch q[0] {
	case 5, 6, 22:
		return q
	case 15, 16:
		return q[:5]
	}
	var read []int
	for _, a := range reads {
		read = append(read, list[a])
	}
	return tell(int(q[0]), read)
}

func (m *model) exception(client int, q []byte) byte {
	if !slices.Contains([]byte{1, 2, 3, 4, 5, 6, 15, 16, 22, 23}, q[0]) {
		return 1
	}
	if !isWellFormed(q) {
		return 3
	}
	table, reads, writes := touched(q)
	for _, a := range slices.Concat(reads, writes) {
		if a >= len(m.tables[table]) {
			return 2
		}
	}
	for _, a := range reads {
		if !mayRead(m.rules[client], table, a) {
			return 4
		}
	}
	for _, a := range writes {
		if !mayWrite(m.rules[client], table, a) {
			return 4
		}
	}
	return 0
}

func isWellFormed(q []byte) bool {
	between := func(place, most int) bool { return 1 <= wordAt(q, place) && wordAt(q, place) <= most }
	switch q[0] {
	case 1, 2:
		return len(q) == 5 && between(3, 2000)
	case 3, 4:
		return len(q) == 5 && between(3, 125)
	case 5:
		return len(q) == 5 && (wordAt(q, 3) == 0 || wordAt(q, 3) == 65280)
	case 6:
		return len(q) == 5
	case 15:
		if len(q) < 6 || !between(3, 1968) {
			return false
		}
		room := 8*int(q[5]) - wordAt(q, 3)
		return 0 <= room && room < 8 && len(q) == 6+int(q[5])
	case 16:
		return len(q) >= 6 && between(3, 123) && int(q[5]) == 2*wordAt(q, 3) && len(q) == 6+int(q[5])
	case 22:
		return len(q) == 7
	}
	return len(q) >= 10 && between(3, 125) && between(7, 121) && int(q[9]) == 2*wordAt(q, 7) && len(q) == 10+int(q[9])
}

// touched gives the table of a request that is well formed, and the addresses that it reads and writes.
func touched(q []byte) (table int, reads, writes []int) {
	a, n := wordAt(q, 1), wordAt(q, 3)
	switch q[0] {
	case 1, 2, 3, 4:
		return tableRead(int(q[0])), span(a, n), nil
	case 5:
		return api.Coils, nil, span(a, 1)
	case 6:
		return api.Holders, nil, span(a, 1)
	case 15:
		return api.Coils, nil, span(a, n)
	case 16:
		return api.Holders, nil, span(a, n)
	case 22:
		return api.Holders, span(a, 1), span(a, 1)
	}
	return api.Holders, span(a, n), span(wordAt(q, 5), wordAt(q, 7))
}

// becomes gives what the entries that a request writes become.
func becomes(q []byte, list []int) []int {
	switch q[0] {
	case 5:
		return []int{wordAt(q, 3) / 65280}
	case 6:
		return []int{wordAt(q, 3)}
	case 15:
		return bitsAt(q, 6, wordAt(q, 3))
	case 16:
		return wordsAt(q, 6, wordAt(q, 3))
	case 22:
		return []int{masked(list[wordAt(q, 1)], wordAt(q, 3), wordAt(q, 5))}
	case 23:
		return wordsAt(q, 10, wordAt(q, 7))
	}
	return nil
}

// masked takes each bit of old where it is in x, of y where it is not.
func masked(old, x, y int) int {
	sum := 0
	for bit := 1; bit < 65536; bit *= 2 {
		from := y
		if x/bit%2 == 1 {
			from = old
		}
		sum += from / bit % 2 * bit
	}
	return sum
}

func mayWrite(list []api.Rule, table, address int) bool {
	may := false
	for _, rule := range list {
		may = may || rule.Table == table && rule.Lo <= address && address <= rule.Hi && rule.Write
	}
	return may
}

// randomRequest gives one that is as it should be, or nearly so.
func randomRequest(r *rand.Rand, highest int) []byte {
	f := []byte{1, 2, 3, 4, 5, 6, 15, 15, 16, 16, 22, 23, 23}[r.Intn(13)]
	a, b, n, m := r.Intn(highest+2), r.Intn(highest+2), 1+r.Intn(6), 1+r.Intn(6)
	q := []byte{f}
	put := func(list ...int) {
		for _, v := range list {
			q = append(q, byte(v/256), byte(v%256))
		}
	}
	putRandom := func(count int) {
		q = append(q, byte(count))
		for range count {
			q = append(q, byte(r.Intn(256)))
		}
	}
	switch f {
	case 1, 2, 3, 4:
		put(a, n)
	case 5:
		put(a, []int{0, 65280}[r.Intn(2)])
	case 6:
		put(a, r.Intn(65536))
	case 15:
		n = 1 + r.Intn(20)
		put(a, n)
		putRandom((n + 7) / 8)
	case 16:
		put(a, n)
		putRandom(2 * n)
	case 22:
		put(a, r.Intn(65536), r.Intn(65536))
	case 23:
		put(a, n, b, m)
		putRandom(2 * m)
	}
	return spoil(r, q)
}

// spoil now and then changes a byte, or takes or adds some.
func spoil(r *rand.Rand, q []byte) []byte {
	switch r.Intn(20) {
	case 0:
		q[r.Intn(len(q))] = byte(r.Intn(256))
	case 1:
		q[r.Intn(len(q))] ^= 1 << r.Intn(8)
	case 2:
		return q[:1+r.Intn(len(q))]
	case 3:
		return append(q, make([]byte, 1+r.Intn(3))...)
	}
	return q
}

func wantTables(t *testing.T, b *relay.Bank, m *model) {
	t.Helper()
	for table, list := range m.tables {
		if got, errno := b.Get(table, 0, len(list)); errno != api.OK || !slices.Equal(got, list) {
			t.Errorf("P7: the table %d is %v, %d, want %v", table, got, errno, list)
		}
	}
}

// TestRandomRequests holds answers, and what they leave in the tables, against the model.
func TestRandomRequests(t *testing.T) {
	r := rand.New(rand.NewSource(12))
	var done [256]int
	var exceptions [5]int
	for range 400 {
		c := api.Config{Limit: 1, Rules: [][]api.Rule{allow(), randomRules(r), randomRules(r), nil}}
		for table := range c.Sizes {
			c.Sizes[table] = r.Intn(25)
		}
		b, m := newBank(t, c), newModel(c)
		for range 200 {
			client, q := max(0, r.Intn(8)-4), randomRequest(r, 20)
			want := m.answer(client, bytes.Clone(q))
			wantAnswer(t, b, client, q, want...)
			wantTables(t, b, m)
			if want[0] == q[0] && q[0] < 128 {
				done[q[0]]++
			} else {
				exceptions[want[1]]++
			}
		}
		if t.Failed() {
			t.FailNow()
		}
	}
	for _, f := range []int{1, 2, 3, 4, 5, 6, 15, 16, 22, 23} {
		if done[f] < 500 {
			t.Errorf("the function %d was done %d times: the test is too weak", f, done[f])
		}
	}
	if slices.Min(exceptions[1:]) < 200 {
		t.Errorf("exceptions %v: the test is too weak", exceptions)
	}
}
