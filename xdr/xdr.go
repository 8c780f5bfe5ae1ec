// Package xdr is layer 1: see shared/doc/01-xdr.md.
package xdr

// longest is how many bytes a text that is written may have.
const longest = 1 << 20

// Pad is how many zero bytes pad so many bytes.
func Pad(n int) int {
	if n < 1 {
		return 0
	}
	return (4 - n%4) % 4
}
