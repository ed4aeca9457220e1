package relay_test

import (
	"math"
	"math/rand"
	"slices"
	"testing"

	"relay/api"
	"relay/relay"
)

func wantSet(t *testing.T, b *relay.Bank, table, address int, want api.Errno, values ...int) {
	t.Helper()
	if errno := b.Set(table, address, values); errno != want {
		t.Errorf("P6: Set(%d, %d, %v) = %d, want %d", table, address, values, errno, want)
	}
}

func wantGet(t *testing.T, b *relay.Bank, table, address int, want ...int) {
	t.Helper()
	got, errno := b.Get(table, address, len(want))
	if errno != api.OK || !slices.Equal(got, want) {
		t.Errorf("P6: Get(%d, %d, %d) = %v, %d, want %v", table, address, len(want), got, errno, want)
	}
}

func wantGetError(t *testing.T, b *relay.Bank, table, address, count int, want api.Errno) {
	t.Helper()
	got, errno := b.Get(table, address, count)
	if errno != want {
		t.Errorf("P6: Get(%d, %d, %d) = %d, want %d", table, address, count, errno, want)
	}
	if got != nil {
		t.Errorf("P1: Get(%d, %d, %d) = %v with an error, want nil", table, address, count, got)
	}
}

// outside are numbers at which sums and differences wrap round.
func outside() []int {
	return []int{math.MinInt, math.MinInt + 1, -1 << 32, -65536, -1, 201, 65536, 1 << 32, math.MaxInt - 1, math.MaxInt}
}

func TestSetAndGetEachTable(t *testing.T) {
	sizes := [4]int{20, 10, 5, 8}
	for table, highest := range []int{1, 1, 65535, 65535} {
		b := newBank(t, api.Config{Sizes: sizes, Limit: 1})
		size := sizes[table]
		want := make([]int, size)
		for a := range size {
			wantSet(t, b, table, a, api.OK, highest)
			want[a] = highest
			wantGet(t, b, table, 0, want...)
			wantGet(t, b, table, a, want[a:]...)
		}
		for other := range sizes {
			if other != table {
				wantGet(t, b, other, 0, make([]int, sizes[other])...)
			}
		}
		wantSet(t, b, table, 1, api.OK, 0, 0)
		want[1], want[2] = 0, 0
		wantGet(t, b, table, 0, want...)
		wantSet(t, b, table, 0, api.OK, make([]int, size)...)
		wantGet(t, b, table, 0, make([]int, size)...)
	}
}

func TestNoSuchTable(t *testing.T) {
	b := documentBank(t)
	for _, table := range append(outside(), 4, 5) {
		// The table is asked for ahead of all else that is wrong.
		for _, number := range append(outside(), 0, 3) {
			wantSet(t, b, table, number, api.ErrTable)
			wantSet(t, b, table, number, api.ErrTable, 1)
			wantSet(t, b, table, number, api.ErrTable, number)
			wantGetError(t, b, table, number, number, api.ErrTable)
			wantGetError(t, b, table, 0, number, api.ErrTable)
		}
	}
}

func TestNoSuchEntry(t *testing.T) {
	sizes := [4]int{20, 10, 5, 8}
	b := newBank(t, api.Config{Sizes: sizes, Limit: 1})
	for table, size := range sizes {
		for _, address := range append(outside(), size+1) {
			wantSet(t, b, table, address, api.ErrAddress)
			wantSet(t, b, table, address, api.ErrAddress, 1)
			wantSet(t, b, table, address, api.ErrAddress, -1, 65536)
			wantGetError(t, b, table, address, 0, api.ErrAddress)
			wantGetError(t, b, table, address, 1, api.ErrAddress)
			wantGetError(t, b, table, address, math.MaxInt, api.ErrAddress)
		}
		for address := range size + 1 {
			over := make([]int, size-address+1)
			wantSet(t, b, table, address, api.ErrAddress, over...)
			wantGetError(t, b, table, address, len(over), api.ErrAddress)
			wantGetError(t, b, table, address, math.MaxInt, api.ErrAddress)
			// The entries are asked for ahead of the values.
			over[0] = -1
			wantSet(t, b, table, address, api.ErrAddress, over...)
		}
		wantSet(t, b, table, 0, api.ErrAddress, make([]int, 100000)...)
		wantGet(t, b, table, 0, make([]int, size)...)
	}
}

func TestNoEntries(t *testing.T) {
	sizes := [4]int{20, 0, 5, 0}
	b := newBank(t, api.Config{Sizes: sizes, Limit: 1})
	for table, size := range sizes {
		for address := range size + 1 {
			wantSet(t, b, table, address, api.OK)
			wantGet(t, b, table, address)
		}
		wantGet(t, b, table, 0, make([]int, size)...)
	}
}

func TestWrongValues(t *testing.T) {
	b := documentBank(t)
	for table, highest := range []int{1, 1, 65535, 65535} {
		before := []int{highest, 0, highest, highest}
		wantSet(t, b, table, 0, api.OK, before...)
		for _, wrong := range []int{math.MinInt, -65536, -1, highest + 1, 65536, 1 << 32, math.MaxInt} {
			wantSet(t, b, table, 0, api.ErrValue, wrong)
			wantSet(t, b, table, 0, api.ErrValue, wrong, 1)
			wantSet(t, b, table, 0, api.ErrValue, 0, 1, 0, wrong)
			wantSet(t, b, table, 0, api.ErrValue, 0, wrong, 0)
			if got, _ := b.Get(table, 0, 4); !slices.Equal(got, before) {
				t.Fatalf("P1: a Set that answered ErrValue changed the entries of %d: %v, want %v", table, got, before)
			}
		}
	}
}

func TestCountBelowZero(t *testing.T) {
	b := documentBank(t)
	for table := range api.Tables {
		for _, count := range []int{math.MinInt, -1 << 32, -2, -1} {
			// The count is looked at ahead of the address.
			for _, address := range append(outside(), 0, 3, 20) {
				wantGetError(t, b, table, address, count, api.ErrValue)
			}
		}
	}
}

// TestRandomSets holds the tables against plain lists.
func TestRandomSets(t *testing.T) {
	r := rand.New(rand.NewSource(6))
	for range 50 {
		var c api.Config
		var model [4][]int
		c.Limit = 1
		for table := range model {
			c.Sizes[table] = r.Intn(12)
			model[table] = make([]int, c.Sizes[table])
		}
		b := newBank(t, c)
		for range 200 {
			table, address := r.Intn(5), r.Intn(14)-1
			values := make([]int, r.Intn(5))
			for i := range values {
				values[i] = r.Intn(2)
				if r.Intn(12) == 0 {
					values[i] = []int{-1, 2, 65535, 65536}[r.Intn(4)]
				}
			}
			wantSet(t, b, table, address, modelSet(&model, table, address, values), values...)
			for table, list := range model {
				wantGet(t, b, table, 0, list...)
			}
		}
	}
}

// modelSet reads the promise entry by entry.
func modelSet(model *[4][]int, table, address int, values []int) api.Errno {
	if table < 0 || table > 3 {
		return api.ErrTable
	}
	list := model[table]
	if len(values) == 0 && (address < 0 || address > len(list)) {
		return api.ErrAddress
	}
	for i := range values {
		if address+i < 0 || address+i > len(list)-1 {
			return api.ErrAddress
		}
	}
	for _, v := range values {
		if v < 0 || v > 65535 || table < 2 && v > 1 {
			return api.ErrValue
		}
	}
	for i, v := range values {
		list[address+i] = v
	}
	return api.OK
}
