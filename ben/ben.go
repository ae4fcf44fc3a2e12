// Package ben is layer 1: the one way in which everything is laid as bytes (see shared/doc/01-ben.md).
package ben

import "strconv"

// Int lays a number: i, its digits, e.
func Int(n int64) []byte {
	return append(strconv.AppendInt([]byte{'i'}, n, 10), 'e')
}

// Text lays a text: how many bytes it has, a colon, and these.
func Text(s string) []byte {
	return append(append(strconv.AppendInt(nil, int64(len(s)), 10), ':'), s...)
}

// List lays a list: l, its parts, e.
func List(parts ...[]byte) []byte {
	laid := []byte{'l'}
	for _, part := range parts {
		laid = append(laid, part...)
	}
	return append(laid, 'e')
}
