package xdr

import (
	"math"
	"strings"

	"posthouse/api"
)

// Reader takes values off the front of a text.
type Reader struct {
	rest string
	err  api.Errno
}

// Read is a reader at the beginning of a text.
func Read(s string) *Reader {
	return &Reader{rest: s}
}

// Err is the first error.
func (r *Reader) Err() api.Errno {
	if r == nil {
		return api.ErrNil
	}
	return r.err
}

// Left is how many bytes were not taken yet.
func (r *Reader) Left() int {
	if r == nil {
		return 0
	}
	return len(r.rest)
}

// Done is the first error, or that bytes are left.
func (r *Reader) Done() api.Errno {
	if err := r.Err(); err != api.OK {
		return err
	}
	if r.Left() > 0 {
		return api.ErrMore
	}
	return api.OK
}

// U32 takes a 32-bit number.
func (r *Reader) U32() (n int) {
	r.take(4, func(part string) api.Errno {
		n = int(number(part))
		return api.OK
	})
	return n
}

// U64 takes a 64-bit number.
func (r *Reader) U64() (n int) {
	r.take(8, func(part string) api.Errno {
		value := number(part)
		if value > math.MaxInt64 {
			return api.ErrRange
		}
		n = int(value)
		return api.OK
	})
	return n
}

// Bool takes a boolean.
func (r *Reader) Bool() (is bool) {
	r.take(4, func(part string) api.Errno {
		value := number(part)
		if value > 1 {
			return api.ErrBool
		}
		is = value == 1
		return api.OK
	})
	return is
}

// Fixed takes a text of so many bytes.
func (r *Reader) Fixed(n int) (s string) {
	if n < 0 {
		r.fail(api.ErrArg)
		return ""
	}
	// Asked before the padding is added, lest the sum leave the range of int.
	if n > r.Left() {
		r.fail(api.ErrShort)
		return ""
	}
	r.take(n+Pad(n), func(part string) api.Errno {
		if strings.Trim(part[n:], "\x00") != "" {
			return api.ErrPad
		}
		// A copy: whoever keeps a short text shall not hold the whole message.
		s = strings.Clone(part[:n])
		return api.OK
	})
	return s
}

// Opaque takes a text of at most so many bytes, ahead of which their number stands.
func (r *Reader) Opaque(most int) string {
	n := r.U32()
	if n > most {
		r.fail(api.ErrLong)
		return ""
	}
	return r.Fixed(n)
}

// Opt takes an option.
func (r *Reader) Opt() api.Opt {
	if !r.Bool() {
		return api.Opt{}
	}
	n := r.U64()
	if r.Err() != api.OK {
		return api.Opt{}
	}
	return api.Opt{Is: true, N: n}
}

// take hands the next size bytes to value, whose error is the reader's then.
func (r *Reader) take(size int, value func(part string) api.Errno) {
	if r.Err() != api.OK {
		return
	}
	if size > len(r.rest) {
		r.fail(api.ErrShort)
		return
	}
	part := r.rest[:size]
	r.rest = r.rest[size:]
	if err := value(part); err != api.OK {
		r.fail(err)
	}
}

// fail remembers an error, unless an earlier one is remembered.
func (r *Reader) fail(err api.Errno) {
	if r.Err() == api.OK {
		r.err, r.rest = err, ""
	}
}

// number is the number that bytes stand for, the most significant first.
func number(part string) (n uint64) {
	for i := range len(part) {
		n = n<<8 | uint64(part[i])
	}
	return n
}
