// Package rules says what clients may do with the entries of tables.
package rules

import (
	"slices"

	"relay/api"
	"relay/words"
)

// List is the rules of one client.
type List []api.Rule

// New gives the lists of the clients, and whether they are as they may be.
func New(lists [][]api.Rule) ([]List, bool) {
	if len(lists) > api.MaxClients {
		return nil, false
	}
	clients := make([]List, len(lists))
	for i, list := range lists {
		if len(list) > api.MaxRules || slices.ContainsFunc(list, isWrong) {
			return nil, false
		}
		// What was handed in stays the caller's to change.
		clients[i] = slices.Clone(list)
	}
	return clients, true
}

func isWrong(r api.Rule) bool {
	return r.Table < 0 || r.Table >= api.Tables || r.Lo < 0 || r.Lo > r.Hi || r.Hi > words.Max
}

// MayRead says whether the client may read each of the entries.
func (l List) MayRead(table, address, count int) bool {
	return l.may(letsRead, table, address, count)
}

// MayWrite says whether the client may write each of the entries.
func (l List) MayWrite(table, address, count int) bool {
	return l.may(letsWrite, table, address, count)
}

func letsRead(r api.Rule) bool { return r.Read }

func letsWrite(r api.Rule) bool { return r.Write }

// may asks entry by entry, since each may be let by a rule of its own.
func (l List) may(lets func(api.Rule) bool, table, address, count int) bool {
	for a := address; a < address+count; a++ {
		if !slices.ContainsFunc(l, func(r api.Rule) bool { return lets(r) && isOver(r, table, a) }) {
			return false
		}
	}
	return true
}

func isOver(r api.Rule, table, address int) bool {
	return r.Table == table && r.Lo <= address && address <= r.Hi
}
