// Package four tells a number as four bytes, the highest first.
package four

// Bytes tells the four bytes of n, from 0 below 2^32.
func Bytes(n int) string {
	return string([]byte{byte(n >> 24), byte(n >> 16), byte(n >> 8), byte(n)})
}

// Number tells the number that s, at most four bytes, is.
func Number(s string) int {
	n := 0
	for i := range len(s) {
		n = n<<8 | int(s[i])
	}
	return n
}
