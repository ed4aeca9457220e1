// Package banks keeps tables together with the rules of those who ask for their entries.
package banks

import (
	"strconv"
	"sync"

	"relay/api"
	"relay/refusals"
	"relay/requests"
	"relay/rules"
	"relay/tables"
)

// Bank has the tables and the clients. Its zero value has none of either, and serves no connection.
type Bank struct {
	// Calls and requests may come from several goroutines, and each is done as a whole.
	lock    sync.Mutex
	tables  []tables.Table
	clients []rules.List
	limit   int
}

// New makes a bank whose entries are all 0.
func New(c api.Config) (*Bank, api.Errno) {
	clients, ok := rules.New(c.Rules)
	if !ok || c.Limit < 1 || c.Limit > api.MaxLimit {
		return nil, api.ErrConfig
	}
	for _, size := range c.Sizes {
		if size < 0 || size > api.MaxSize {
			return nil, api.ErrConfig
		}
	}
	return &Bank{tables: newTables(c.Sizes), clients: clients, limit: c.Limit}, api.OK
}

func newTables(sizes [api.Tables]int) []tables.Table {
	return []tables.Table{
		api.Coils:    tables.NewBits(sizes[api.Coils]),
		api.Switches: tables.NewBits(sizes[api.Switches]),
		api.Inputs:   tables.NewWords(sizes[api.Inputs]),
		api.Holders:  tables.NewWords(sizes[api.Holders]),
	}
}

// HasClient says whether there is a list of rules of this client.
func (b *Bank) HasClient(client int) bool { return 0 <= client && client < len(b.clients) }

// Admit gives those of the connections that are served. Those behind them are not even asked for their clients.
func (b *Bank) Admit(conns []api.Conn) ([]api.Conn, api.Errno) {
	served := conns[:min(len(conns), b.limit)]
	for _, c := range served {
		if !b.HasClient(c.Client) {
			return nil, api.ErrClient
		}
	}
	return served, api.OK
}

func (b *Bank) hasTable(table int) bool { return 0 <= table && table < len(b.tables) }

// Set makes the entries from address on the values.
func (b *Bank) Set(table int, address int, values []int) api.Errno {
	b.lock.Lock()
	defer b.lock.Unlock()
	if !b.hasTable(table) {
		return api.ErrTable
	}
	if !b.tables[table].Has(address, len(values)) {
		return api.ErrAddress
	}
	if !b.tables[table].Allows(values) {
		return api.ErrValue
	}
	b.tables[table].Set(address, values)
	return api.OK
}

// Get gives count entries from address on.
func (b *Bank) Get(table int, address int, count int) ([]int, api.Errno) {
	b.lock.Lock()
	defer b.lock.Unlock()
	if !b.hasTable(table) {
		return nil, api.ErrTable
	}
	if count < 0 {
		return nil, api.ErrValue
	}
	if !b.tables[table].Has(address, count) {
		return nil, api.ErrAddress
	}
	return b.tables[table].Get(address, count), api.OK
}

// Do does a request of a client that the bank has, and gives the answer.
// Each of its errors has a refusal in it.
func (b *Bank) Do(client int, function byte, behind []byte) ([]byte, error) {
	answer, err := b.do(client, function, behind)
	return answer, refusals.Wrap("client "+strconv.Itoa(client), err)
}

func (b *Bank) do(client int, function byte, behind []byte) ([]byte, error) {
	request, err := requests.Parse(function, behind)
	if err != nil {
		return nil, refusals.Wrap("a request that is not understood", err)
	}
	b.lock.Lock()
	defer b.lock.Unlock()
	if err := b.check(client, request); err != nil {
		return nil, refusals.Wrap("table "+strconv.Itoa(request.Table), err)
	}
	return carryOut(b.tables[request.Table], request), nil
}

// check asks for the entries ahead of the rules: a client that may do nothing
// is told all the same that an entry is not there.
func (b *Bank) check(client int, r requests.Request) error {
	table, list := b.tables[r.Table], b.clients[client]
	if !table.Has(r.Reads.Address, r.Reads.Count) || !table.Has(r.Writes.Address, r.Writes.Count) {
		return refusals.Wrap("no such entry", r.Refuse(api.Address))
	}
	if !list.MayRead(r.Table, r.Reads.Address, r.Reads.Count) || !list.MayWrite(r.Table, r.Writes.Address, r.Writes.Count) {
		return refusals.Wrap("not allowed", r.Refuse(api.Denied))
	}
	return nil
}

// carryOut writes ahead of reading, so that a client that does both reads what it wrote.
func carryOut(table tables.Table, r requests.Request) []byte {
	old := table.Get(r.Writes.Address, r.Writes.Count)
	table.Set(r.Writes.Address, r.Written(old))
	return r.Answer(table.Pack(r.Reads.Address, r.Reads.Count))
}
