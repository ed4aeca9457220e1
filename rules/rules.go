// Package rules says what clients may do with the entries of tables.
package rules

import (
	"slices"

	"relay/api"
	"relay/words"
)

// List is the rules of one client.
type List []api.Rule

// New gives the lists of the clients, and whether they are as they may be.
func New(lists [][]api.Rule) ([]List, bool) {
	if len(lists) > api.MaxClients {
		return nil, false
	}
	clients := make([]List, len(lists))
	for i, list := range lists {
		if len(list) > api.MaxRules || slices.ContainsFunc(list, isWrong) {
			return nil, false
		}
		// What was handed in stays the caller's to change.
		clients[i] = slices.Clone(list)
	}
	return clients, true
}

func isWrong(r api.Rule) bool {
	return r.Table < 0 || r.Table >= api.Tables || r.Lo < 0 || r.Lo > r.Hi || r.Hi > words.Max
}

// MayRead says whether the client may read each of the entries.
func (l List) MayRead(table, address, count int) bool {
	for a := address; a < address+count; a++ {
		if !l.letsRead(table, a) {
			return false
		}
	}
	return true
}

func (l List) letsRead(table, address int) bool {
	return slices.ContainsFunc(l, func(r api.Rule) bool {
		return r.Read && r.Table == table && r.Lo <= address && address <= r.Hi
	})
}
