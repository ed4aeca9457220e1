package banks_test

import (
	"errors"
	"testing"

	"relay/api"
	"relay/banks"
	"relay/refusals"
)

func TestRefusalsAreWrapped(t *testing.T) {
	readers := []api.Rule{{Table: api.Holders, Lo: 2, Hi: 3, Read: true}}
	b, errno := banks.New(api.Config{Sizes: [4]int{0, 0, 0, 5}, Limit: 1, Rules: [][]api.Rule{readers}})
	if errno != api.OK {
		t.Fatalf("P5: New = %d", errno)
	}
	for _, c := range []struct {
		function  byte
		behind    []byte
		exception byte
		text      string
	}{
		{7, nil, api.Function, "client 0: a request that is not understood: no such function: function 7: exception 1"},
		{3, nil, api.Value, "client 0: a request that is not understood: too few or too many bytes: function 3: exception 3"},
		{3, []byte{0, 0, 0, 0}, api.Value, "client 0: a request that is not understood: too few or too many entries: function 3: exception 3"},
		{3, []byte{0, 5, 0, 1}, api.Address, "client 0: table 3: no such entry: function 3: exception 2"},
		{3, []byte{0, 1, 0, 1}, api.Denied, "client 0: table 3: not allowed: function 3: exception 4"},
		{5, []byte{0, 0, 0, 1}, api.Value, "client 0: a request that is not understood: neither on nor off: function 5: exception 3"},
		{5, []byte{0, 0, 0, 0}, api.Address, "client 0: table 0: no such entry: function 5: exception 2"},
		{6, []byte{0, 2, 0, 0, 0}, api.Value, "client 0: a request that is not understood: too few or too many bytes: function 6: exception 3"},
		{6, []byte{0, 2, 0, 0}, api.Denied, "client 0: table 3: not allowed: function 6: exception 4"},
		{15, []byte{0, 0, 0, 1, 2, 1, 1}, api.Value, "client 0: a request that is not understood: too few or too many bytes: function 15: exception 3"},
		{16, []byte{0, 2, 0, 0, 0}, api.Value, "client 0: a request that is not understood: too few or too many entries: function 16: exception 3"},
		{22, []byte{0, 2, 0, 0, 0, 0}, api.Denied, "client 0: table 3: not allowed: function 22: exception 4"},
		{23, []byte{0, 2, 0, 1, 0, 5, 0, 1, 2, 1, 1}, api.Address, "client 0: table 3: no such entry: function 23: exception 2"},
	} {
		answer, err := b.Do(0, c.function, c.behind)
		var refusal *refusals.Refusal
		if !errors.As(err, &refusal) || *refusal != (refusals.Refusal{Function: c.function, Exception: c.exception}) {
			t.Errorf("Ways: Do(%d, %v): %v, want the exception %d", c.function, c.behind, err, c.exception)
		}
		if answer != nil || err == nil || err.Error() != c.text {
			t.Errorf("Ways: Do(%d, %v) = %v, %v, want nil and what each layer says: %s", c.function, c.behind, answer, err, c.text)
		}
	}
	if answer, err := b.Do(0, 3, []byte{0, 2, 0, 2}); err != nil || len(answer) != 6 {
		t.Errorf("P7: Do of what may be done = %v, %v", answer, err)
	}
}
