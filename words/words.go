// Package words lays out words: two bytes, the high one first.
package words

// Max is the highest number that a word can be.
const Max = 65535

// Size is how many bytes a word has.
const Size = 2

// Append puts the word w behind list.
func Append(list []byte, w int) []byte { return append(list, byte(w>>8), byte(w)) }

// Join gives the word with these bytes.
func Join(high, low byte) int { return int(high)<<8 | int(low) }
