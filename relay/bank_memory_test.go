package relay_test

import (
	"bytes"
	"slices"
	"testing"

	"relay/api"
	"relay/relay"
)

// spacious gives list with numbers around it in the same memory, and that memory whole.
func spacious(list []int) (inner, whole []int) {
	whole = slices.Repeat([]int{1}, len(list)+20)
	copy(whole[5:], list)
	return whole[5 : 5+len(list)], whole
}

func TestSetLeavesValuesAlone(t *testing.T) {
	b := documentBank(t)
	for table := range api.Tables {
		for _, list := range [][]int{nil, {0, 1, 0}, {0, 1, -1}, {0, 65536}, make([]int, 99)} {
			values, whole := spacious(list)
			before := slices.Clone(whole)
			b.Set(table, 1, values)
			if !slices.Equal(whole, before) {
				t.Errorf("P2: Set wrote into its values %v, or around them", list)
			}
		}
	}
}

func TestSetKeepsNoValues(t *testing.T) {
	for table := range api.Tables {
		b := documentBank(t)
		values, whole := spacious([]int{0, 1, 0, 1, 1})
		wantSet(t, b, table, 0, api.OK, values...)
		for i := range whole {
			whole[i] = 7
		}
		wantGet(t, b, table, 0, 0, 1, 0, 1, 1)
	}
}

func TestGetGivesCopies(t *testing.T) {
	for table := range api.Tables {
		b := documentBank(t)
		wantSet(t, b, table, 0, api.OK, 1, 0, 1, 1)
		for _, at := range [][2]int{{0, 4}, {0, 2}, {1, 2}, {4, 1}, {2, 0}} {
			first, _ := b.Get(table, at[0], at[1])
			second, _ := b.Get(table, at[0], at[1])
			kept := slices.Clone(second)
			first = first[:cap(first)]
			for i := range first {
				first[i] = 7
			}
			if !slices.Equal(second, kept) {
				t.Errorf("P2: two lists of Get(%d, %d, %d) share memory", table, at[0], at[1])
			}
			wantGet(t, b, table, 0, 1, 0, 1, 1, 0)
		}
		early, _ := b.Get(table, 0, 4)
		wantSet(t, b, table, 0, api.OK, 0, 1, 0, 0)
		if !slices.Equal(early, []int{1, 0, 1, 1}) {
			t.Errorf("P2: a Set changed what Get gave before: %v", early)
		}
	}
}

func TestAnswerLeavesRequestAlone(t *testing.T) {
	b := documentBank(t)
	lists := [][]byte{nil, {7}, {3}, {1, 0, 0, 0, 9}, {3, 0, 2, 0, 2}, {4, 0, 9, 0, 1}, {2, 0, 0, 0, 0}, counting(254)}
	lists = slices.Concat(lists, writes(3), writes(99), [][]byte{{5, 0, 0, 1, 1}, {15, 0, 0, 0, 9, 2, 255, 255}, {16, 0, 3, 0, 1, 3, 1, 2}})
	for _, list := range lists {
		for client := range 3 {
			request, whole := roomy(list)
			before := bytes.Clone(whole)
			answer, _ := b.Answer(client, request)
			kept := bytes.Clone(answer)
			if !bytes.Equal(whole, before) {
				t.Errorf("P2: Answer wrote into its request %v, or around it", list)
			}
			fill(whole, 0x11)
			if !bytes.Equal(answer, kept) {
				t.Errorf("P2: the answer of %v shares memory with the request", list)
			}
			fill(answer[:cap(answer)], 0x22)
			if !bytes.Equal(whole, bytes.Repeat([]byte{0x11}, len(whole))) {
				t.Errorf("P2: the request %v shares memory with the answer", list)
			}
		}
	}
}

// TestAnswerKeepsNoRequest: what is written into a request that was done is not in the bank.
func TestAnswerKeepsNoRequest(t *testing.T) {
	for _, list := range writes(3) {
		b := documentBank(t)
		request, whole := roomy(list)
		answer, _ := b.Answer(0, request)
		before := snapshot(t, b, [4]int{20, 10, 5, 8})
		fill(whole, 0x11)
		fill(answer[:cap(answer)], 0x22)
		for table, entries := range before.tables {
			if got, _ := b.Get(table, 0, len(entries)); !slices.Equal(got, entries) {
				t.Errorf("P2: the bank shares memory with the request %v, or with its answer: table %d is %v, want %v", list, table, got, entries)
			}
		}
	}
}

func TestAnswersShareNothing(t *testing.T) {
	b := documentBank(t)
	for table := range api.Tables {
		wantSet(t, b, table, 0, api.OK, 1, 0, 1, 1, 1)
	}
	requests := [][]byte{{1, 0, 0, 0, 9}, {2, 0, 0, 0, 10}, {3, 0, 0, 0, 5}, {4, 0, 0, 0, 5}, {7}, {3}, {3, 0, 9, 0, 1}}
	// The entry 4 is what these leave it as.
	requests = append(requests, request(5, 4, 65280), request(6, 4, 1), request(22, 4, 65535, 0),
		carrying(request(15, 4, 1), 1), carrying(request(16, 4, 1), 0, 1), carrying(request(23, 0, 5, 4, 1), 0, 1))
	for _, request := range requests {
		first, _ := b.Answer(0, request)
		second, _ := b.Answer(0, request)
		want := bytes.Clone(second)
		fill(first[:cap(first)], 0xEE)
		if !bytes.Equal(second, want) {
			t.Errorf("P2: two answers of %v share memory", request)
		}
		wantAnswer(t, b, 0, request, want...)
	}
	for table := range api.Tables {
		wantGet(t, b, table, 0, 1, 0, 1, 1, 1)
	}
	early, _ := b.Answer(0, []byte{3, 0, 0, 0, 2})
	wantSet(t, b, api.Holders, 0, api.OK, 9, 9)
	if want := []byte{3, 4, 0, 1, 0, 0}; !bytes.Equal(early, want) {
		t.Errorf("P2: a Set changed an answer given before: %v, want %v", early, want)
	}
}

// ruled gives lists of rules with spare room behind each, and all the memory that they stand in.
func ruled() (lists [][]api.Rule, outer [][]api.Rule, inner []api.Rule) {
	inner = slices.Repeat([]api.Rule{{Table: 2, Lo: 9, Hi: 99, Write: true}}, 30)
	copy(inner[4:], allow())
	inner[12] = api.Rule{Table: api.Holders, Lo: 2, Hi: 4, Read: true}
	outer = make([][]api.Rule, 6)
	outer[0], outer[1], outer[2] = inner[4:8], inner[12:13], inner[20:20]
	return outer[:3], outer, inner
}

func TestNewLeavesRulesAlone(t *testing.T) {
	for _, limit := range []int{1, 0} {
		lists, outer, inner := ruled()
		before := slices.Clone(inner)
		relay.New(api.Config{Sizes: [4]int{9, 9, 9, 9}, Limit: limit, Rules: lists})
		if !slices.Equal(inner, before) {
			t.Errorf("P2: New wrote into its rules, or around them: %v", inner)
		}
		for i, list := range outer {
			if i < 3 && len(list) != []int{4, 1, 0}[i] || i >= 3 && list != nil {
				t.Errorf("P2: New wrote into its lists of rules, or around them: %v", outer)
			}
		}
	}
}

func TestNewKeepsNoRules(t *testing.T) {
	lists, outer, inner := ruled()
	b := newBank(t, api.Config{Sizes: [4]int{9, 9, 9, 9}, Limit: 1, Rules: lists})
	check := func() {
		t.Helper()
		wantAnswer(t, b, 0, []byte{1, 0, 0, 0, 9}, 1, 2, 0, 0)
		wantAnswer(t, b, 0, []byte{4, 0, 8, 0, 1}, 4, 2, 0, 0)
		wantAnswer(t, b, 1, []byte{3, 0, 2, 0, 3}, 3, 6, 0, 0, 0, 0, 0, 0)
		wantAnswer(t, b, 1, []byte{3, 0, 2, 0, 4}, 131, 4)
		wantAnswer(t, b, 2, []byte{3, 0, 2, 0, 1}, 131, 4)
		wantAnswerError(t, b, 3, []byte{3, 0, 2, 0, 1}, api.ErrClient)
	}
	check()
	for i := range inner {
		inner[i] = api.Rule{Table: api.Holders, Lo: 5, Hi: 5, Read: true}
	}
	check()
	for i := range outer {
		outer[i] = slices.Repeat(allow(), 2)
	}
	check()
}

func TestBanksDoNotChangeOneAnother(t *testing.T) {
	lists := [][]api.Rule{allow()}
	c := api.Config{Sizes: [4]int{9, 9, 9, 9}, Limit: 1, Rules: lists}
	first, second := newBank(t, c), newBank(t, c)
	lists[0][3].Read = false
	third := newBank(t, c)
	for table := range api.Tables {
		wantSet(t, first, table, 0, api.OK, 1, 1, 1)
		wantSet(t, third, table, 4, api.OK, 1)
		wantGet(t, first, table, 0, 1, 1, 1, 0, 0)
		wantGet(t, second, table, 0, 0, 0, 0, 0, 0)
		wantGet(t, third, table, 0, 0, 0, 0, 0, 1)
	}
	wantAnswer(t, first, 0, []byte{3, 0, 0, 0, 1}, 3, 2, 0, 1)
	wantAnswer(t, second, 0, []byte{3, 0, 0, 0, 1}, 3, 2, 0, 0)
	wantAnswer(t, third, 0, []byte{3, 0, 0, 0, 1}, 131, 4)
}
