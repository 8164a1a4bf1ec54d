// Package bigend writes and reads whole numbers in bytes, the greatest one first. In eight bytes those from 2^63 on are ints below 0.
package bigend

// Append writes a number in so many bytes behind b.
func Append(b []byte, n, many int) []byte {
	for i := many - 1; i >= 0; i-- {
		b = append(b, byte(n>>(8*i)))
	}
	return b
}

// Number returns the number that bytes are.
func Number(b []byte) int {
	n := 0
	for _, x := range b {
		n = n<<8 | int(x)
	}
	return n
}
