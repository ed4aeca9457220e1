// Package bits lays out bits: eight in a byte, the first one lowest.
package bits

// perByte is how many bits a byte holds.
const perByte = 8

// Size is the least number of bytes that hold count bits.
func Size(count int) int { return (count + perByte - 1) / perByte }

// Pack gives the bits in bytes; those that are left over are 0.
func Pack(list []int) []byte {
	packed := make([]byte, Size(len(list)))
	for i, bit := range list {
		packed[i/perByte] |= byte(bit) << (i % perByte)
	}
	return packed
}

// Unpack gives the first count bits; those that are left over are not looked at.
func Unpack(packed []byte, count int) []int {
	list := make([]int, count)
	for i := range list {
		list[i] = int(packed[i/perByte]>>(i%perByte)) & 1
	}
	return list
}
