package xdr

import (
	"math"

	"posthouse/api"
)

// Writer has bytes, to which more are appended.
type Writer struct {
	bytes []byte
}

// U32 appends a 32-bit number.
func (w *Writer) U32(n int) api.Errno {
	if w == nil {
		return api.ErrNil
	}
	if n < 0 || n > math.MaxUint32 {
		return api.ErrRange
	}
	w.number(n, 4)
	return api.OK
}

// U64 appends a 64-bit number.
func (w *Writer) U64(n int) api.Errno {
	if w == nil {
		return api.ErrNil
	}
	if n < 0 {
		return api.ErrRange
	}
	w.number(n, 8)
	return api.OK
}

// Bool appends a boolean.
func (w *Writer) Bool(is bool) api.Errno {
	if is {
		return w.U32(1)
	}
	return w.U32(0)
}

// Fixed appends a text without its length.
func (w *Writer) Fixed(s string) api.Errno {
	if w == nil {
		return api.ErrNil
	}
	if len(s) > longest {
		return api.ErrLong
	}
	w.padded(s)
	return api.OK
}

// Opaque appends a text behind its length.
func (w *Writer) Opaque(s string) api.Errno {
	if w == nil {
		return api.ErrNil
	}
	if len(s) > longest {
		return api.ErrLong
	}
	w.number(len(s), 4)
	w.padded(s)
	return api.OK
}

// Opt appends an option.
func (w *Writer) Opt(o api.Opt) api.Errno {
	if !o.Is {
		return w.Bool(false)
	}
	// Asked first: behind an error not even the boolean may stand.
	if w != nil && o.N < 0 {
		return api.ErrRange
	}
	w.Bool(true)
	return w.U64(o.N)
}

// Text is all bytes.
func (w *Writer) Text() string {
	if w == nil {
		return ""
	}
	return string(w.bytes)
}

// Len is how many bytes there are.
func (w *Writer) Len() int {
	if w == nil {
		return 0
	}
	return len(w.bytes)
}

// number appends the last size bytes of n, the most significant first.
func (w *Writer) number(n, size int) {
	for shift := 8 * (size - 1); shift >= 0; shift -= 8 {
		w.bytes = append(w.bytes, byte(n>>shift))
	}
}

// padded appends a text and the zero bytes that pad it.
func (w *Writer) padded(s string) {
	w.bytes = append(w.bytes, s...)
	for range Pad(len(s)) {
		w.bytes = append(w.bytes, 0)
	}
}
