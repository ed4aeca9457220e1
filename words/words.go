// Package words lays out words: two bytes, the high one first.
package words

// Max is the highest number that a word can be.
const Max = 65535

// Append puts the word w behind list.
func Append(list []byte, w int) []byte { return append(list, byte(w>>8), byte(w)) }

// Join gives the word with these bytes.
func Join(high, low byte) int { return int(high)<<8 | int(low) }

// Size is how many bytes count words have.
func Size(count int) int { return 2 * count }

// Pack gives the words one behind the other.
func Pack(list []int) []byte {
	packed := make([]byte, 0, Size(len(list)))
	for _, w := range list {
		packed = Append(packed, w)
	}
	return packed
}

// Unpack gives the first count words.
func Unpack(packed []byte, count int) []int {
	list := make([]int, count)
	for i := range list {
		list[i] = Join(packed[Size(i)], packed[Size(i)+1])
	}
	return list
}
