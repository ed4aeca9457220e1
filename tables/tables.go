// Package tables keeps the entries of tables of bits and of words.
package tables

import (
	"relay/bits"
	"relay/words"
)

// Table is a table of either kind. Only Has and Allows take any numbers:
// the others are for entries that it has, and for values that it allows.
type Table interface {
	Has(address, count int) bool
	Allows(values []int) bool
	Get(address, count int) []int
	Set(address int, values []int)
	Pack(address, count int) []byte
}

// entries is what tables of both kinds share.
type entries struct {
	list    []int
	highest int
}

// Has says whether count entries from address on are in the table;
// with a count of 0 address may stand right behind the last entry.
func (e *entries) Has(address, count int) bool {
	// The sum of the two could wrap round; what is left of the size behind address can't.
	return 0 <= address && 0 <= count && count <= len(e.list)-address
}

// Allows says whether entries may become these values.
func (e *entries) Allows(values []int) bool {
	for _, v := range values {
		if v < 0 || v > e.highest {
			return false
		}
	}
	return true
}

// Get gives a copy of the entries.
func (e *entries) Get(address, count int) []int {
	values := make([]int, count)
	copy(values, e.list[address:])
	return values
}

// Set makes the entries from address on these values.
func (e *entries) Set(address int, values []int) { copy(e.list[address:], values) }

// Bits is a table whose entries are 0 or 1.
type Bits struct{ entries }

// NewBits makes a table of bits that are all 0.
func NewBits(size int) *Bits { return &Bits{entries{list: make([]int, size), highest: 1}} }

// Pack gives the entries as a client is told them.
func (b *Bits) Pack(address, count int) []byte { return bits.Pack(b.Get(address, count)) }

// Words is a table whose entries are words.
type Words struct{ entries }

// NewWords makes a table of words that are all 0.
func NewWords(size int) *Words { return &Words{entries{list: make([]int, size), highest: words.Max}} }

// Pack gives the entries as a client is told them.
func (w *Words) Pack(address, count int) []byte { return words.Pack(w.Get(address, count)) }
