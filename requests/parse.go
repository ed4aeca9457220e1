package requests

import (
	"relay/api"
	"relay/bits"
	"relay/refusals"
	"relay/words"
)

// coilOn is the word by which a coil becomes 1; by the word 0 it becomes 0.
const coilOn = 65280

func (r *Request) parseRead(behind []byte, table, most int) error {
	numbers, rest, ok := split(behind, 2)
	if !ok || len(rest) > 0 {
		return r.wrongSize()
	}
	if !isCount(numbers[1], most) {
		return r.wrongCount()
	}
	r.Table, r.Reads = table, Span{numbers[0], numbers[1]}
	return nil
}

func (r *Request) parseWriteCoil(behind []byte) error {
	numbers, rest, ok := split(behind, 2)
	if !ok || len(rest) > 0 {
		return r.wrongSize()
	}
	value := numbers[1]
	if value != 0 && value != coilOn {
		return r.wrong("neither on nor off")
	}
	r.Table, r.Writes = api.Coils, Span{numbers[0], 1}
	r.values, r.echo = []int{value / coilOn}, behind
	return nil
}

func (r *Request) parseWriteHolder(behind []byte) error {
	numbers, rest, ok := split(behind, 2)
	if !ok || len(rest) > 0 {
		return r.wrongSize()
	}
	r.Table, r.Writes = api.Holders, Span{numbers[0], 1}
	r.values, r.echo = numbers[1:], behind
	return nil
}

func (r *Request) parseWriteCoils(behind []byte) error {
	r.Table = api.Coils
	return r.parseWrite(behind, api.MaxWriteBits, bits.Size, bits.Unpack)
}

func (r *Request) parseWriteHolders(behind []byte) error {
	r.Table = api.Holders
	return r.parseWrite(behind, api.MaxWriteWords, words.Size, words.Unpack)
}

// parseWrite takes apart how many entries are written, and what they become:
// entries of one table stand there otherwise than those of another.
func (r *Request) parseWrite(behind []byte, most int, size func(count int) int, unpack func(packed []byte, count int) []int) error {
	numbers, rest, ok := split(behind, 2)
	if !ok {
		return r.wrongSize()
	}
	count := numbers[1]
	if !isCount(count, most) {
		return r.wrongCount()
	}
	packed, ok := sized(rest, size(count))
	if !ok {
		return r.wrongSize()
	}
	r.Writes = Span{numbers[0], count}
	r.values, r.echo = unpack(packed, count), ahead(behind, rest)
	return nil
}

func (r *Request) parseMaskHolder(behind []byte) error {
	numbers, rest, ok := split(behind, 3)
	if !ok || len(rest) > 0 {
		return r.wrongSize()
	}
	holder := Span{numbers[0], 1}
	r.Table, r.Reads, r.Writes = api.Holders, holder, holder
	r.keep, r.values, r.echo = numbers[1], numbers[2:], behind
	return nil
}

func (r *Request) parseWriteAndRead(behind []byte) error {
	numbers, rest, ok := split(behind, 4)
	if !ok {
		return r.wrongSize()
	}
	reads, writes := Span{numbers[0], numbers[1]}, Span{numbers[2], numbers[3]}
	if !isCount(reads.Count, api.MaxReadWords) || !isCount(writes.Count, api.MaxBothWords) {
		return r.wrongCount()
	}
	packed, ok := sized(rest, words.Size(writes.Count))
	if !ok {
		return r.wrongSize()
	}
	r.Table, r.Reads, r.Writes = api.Holders, reads, writes
	r.values = words.Unpack(packed, writes.Count)
	return nil
}

// split gives the first count words, and what stands behind them.
func split(behind []byte, count int) (numbers []int, rest []byte, ok bool) {
	size := words.Size(count)
	if len(behind) < size {
		return nil, nil, false
	}
	return words.Unpack(behind, count), behind[size:], true
}

// sized gives the bytes behind the first one, which must be as many as it says and as size says.
func sized(rest []byte, size int) (packed []byte, ok bool) {
	if len(rest) != 1+size || int(rest[0]) != size {
		return nil, false
	}
	return rest[1:], true
}

// ahead gives what of a list stands ahead of its rest.
func ahead(list, rest []byte) []byte { return list[:len(list)-len(rest)] }

func isCount(n, most int) bool { return 1 <= n && n <= most }

func (r *Request) wrongSize() error { return r.wrong("too few or too many bytes") }

func (r *Request) wrongCount() error { return r.wrong("too few or too many entries") }

func (r *Request) wrong(says string) error { return refusals.Wrap(says, r.Refuse(api.Value)) }
