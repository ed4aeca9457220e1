package relay_test

import (
	"math"
	"slices"
	"testing"

	"relay/api"
	"relay/relay"
)

// allow gives rules by which all entries of all tables may be read and written.
func allow() []api.Rule {
	var list []api.Rule
	for table := range api.Tables {
		list = append(list, api.Rule{Table: table, Lo: 0, Hi: 65535, Read: true, Write: true})
	}
	return list
}

func newBank(t *testing.T, c api.Config) *relay.Bank {
	t.Helper()
	b, errno := relay.New(c)
	if b == nil || errno != api.OK {
		t.Fatalf("P5: New(%+v) = %v, %d, want a bank", c, b, errno)
	}
	return b
}

// documentBank gives the bank of the document's examples.
func documentBank(t *testing.T) *relay.Bank {
	t.Helper()
	return newBank(t, api.Config{Sizes: [4]int{20, 10, 5, 8}, Limit: 2, Rules: [][]api.Rule{
		allow(),
		{{Table: api.Holders, Lo: 2, Hi: 4, Read: true}, {Table: api.Holders, Lo: 3, Hi: 3, Write: true}},
	}})
}

func wantNew(t *testing.T, c api.Config, good bool) {
	t.Helper()
	b, errno := relay.New(c)
	if good && (b == nil || errno != api.OK) {
		t.Errorf("P5: New(%+v) = %v, %d, want a bank", c, b, errno)
	}
	if !good && errno != api.ErrConfig {
		t.Errorf("P5: New(%+v) = %d, want ErrConfig", c, errno)
	}
	if !good && b != nil {
		t.Errorf("P1: New(%+v) = a bank with an error, want nil", c)
	}
}

func TestNewSizes(t *testing.T) {
	for table := range api.Tables {
		for _, size := range []int{0, 1, 100, 199, 200} {
			c := api.Config{Limit: 1}
			c.Sizes[table] = size
			wantNew(t, c, true)
		}
		for _, size := range []int{math.MinInt, -1, 201, 65536, 1 << 32, math.MaxInt} {
			c := api.Config{Limit: 1}
			c.Sizes[table] = size
			wantNew(t, c, false)
		}
	}
}

func TestNewLimit(t *testing.T) {
	for limit := -3; limit <= 10; limit++ {
		wantNew(t, api.Config{Limit: limit}, 1 <= limit && limit <= 4)
	}
	wantNew(t, api.Config{Limit: math.MinInt}, false)
	wantNew(t, api.Config{Limit: math.MaxInt}, false)
}

func TestNewHowManyRules(t *testing.T) {
	for n := range 12 {
		wantNew(t, api.Config{Limit: 1, Rules: make([][]api.Rule, n)}, n <= 6)
		for client := range 6 {
			lists := make([][]api.Rule, 6)
			lists[client] = make([]api.Rule, n)
			wantNew(t, api.Config{Limit: 1, Rules: lists}, n <= 8)
		}
	}
}

func TestNewEachRule(t *testing.T) {
	good := api.Rule{Table: 1, Lo: 3, Hi: 9, Read: true, Write: true}
	for _, c := range []struct {
		rule api.Rule
		good bool
	}{
		{api.Rule{}, true},
		{api.Rule{Table: 3, Lo: 0, Hi: 65535}, true},
		{api.Rule{Table: 3, Lo: 65535, Hi: 65535}, true},
		{api.Rule{Table: 2, Lo: 7, Hi: 7}, true},
		{api.Rule{Table: 4}, false},
		{api.Rule{Table: -1}, false},
		{api.Rule{Table: math.MaxInt}, false},
		{api.Rule{Table: math.MinInt}, false},
		{api.Rule{Lo: -1, Hi: 5}, false},
		{api.Rule{Lo: -2, Hi: -1}, false},
		{api.Rule{Lo: math.MinInt, Hi: 5}, false},
		{api.Rule{Lo: 6, Hi: 5}, false},
		{api.Rule{Lo: 1, Hi: 0}, false},
		{api.Rule{Lo: 0, Hi: -1}, false},
		{api.Rule{Lo: 0, Hi: 65536}, false},
		{api.Rule{Lo: 65536, Hi: 65536}, false},
		{api.Rule{Lo: 0, Hi: math.MaxInt}, false},
		{api.Rule{Lo: math.MaxInt, Hi: math.MinInt}, false},
	} {
		for client := range 6 {
			for place := range 8 {
				lists := make([][]api.Rule, 6)
				lists[client] = slices.Repeat([]api.Rule{good}, 8)
				lists[client][place] = c.rule
				wantNew(t, api.Config{Limit: 4, Rules: lists}, c.good)
			}
		}
	}
}

func TestNewBankIsAllZeros(t *testing.T) {
	sizes := [4]int{200, 1, 37, 0}
	b := newBank(t, api.Config{Sizes: sizes, Limit: 1})
	for table, size := range sizes {
		wantGet(t, b, table, 0, make([]int, size)...)
		wantGetError(t, b, table, 0, size+1, api.ErrAddress)
	}
}
