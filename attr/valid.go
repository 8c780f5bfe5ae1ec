package attr

import (
	"slices"

	"posthouse/api"
	"posthouse/xdr"
)

// maxMode is all twelve bits of a mode.
const maxMode = 0o7777

// limit is a number, with the least and the most that it may be.
type limit struct {
	n, least, most int
}

// option is the limit of an option's number, which is 0 where the option is absent.
func option(o api.Opt, most int) limit {
	if !o.Is {
		most = 0
	}
	return limit{o.N, 0, most}
}

// inLimits tells whether one of the numbers is beyond its limits.
func inLimits(limits ...limit) api.Errno {
	beyond := func(l limit) bool { return l.n < l.least || l.n > l.most }
	if slices.IndexFunc(limits, beyond) >= 0 {
		return api.ErrForm
	}
	return api.OK
}

// put writes a value that passes its check, and nothing of another one.
func put[T any](w *xdr.Writer, v T, check func(T) api.Errno, write func(*xdr.Writer, T)) api.Errno {
	if w == nil {
		return api.ErrNil
	}
	if err := check(v); err != api.OK {
		return err
	}
	write(w, v)
	return api.OK
}

// get reads a value, all of it ahead of its check: what the reader says goes first.
func get[T any](r *xdr.Reader, read func(*xdr.Reader) T, check func(T) api.Errno) (T, api.Errno) {
	var none T
	v := read(r)
	if err := r.Err(); err != api.OK {
		return none, err
	}
	if err := check(v); err != api.OK {
		return none, err
	}
	return v, api.OK
}
