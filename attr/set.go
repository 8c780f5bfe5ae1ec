package attr

import (
	"math"

	"posthouse/api"
	"posthouse/xdr"
)

// CheckSet tells why it may not be set.
func CheckSet(s api.Set) api.Errno {
	return inLimits(
		option(s.Mode, maxMode),
		option(s.Uid, math.MaxUint32),
		option(s.Gid, math.MaxUint32),
		option(s.Size, math.MaxInt),
		option(s.Time, math.MaxInt),
	)
}

// PutSet lays what is to be set.
func PutSet(w *xdr.Writer, s api.Set) api.Errno {
	return put(w, s, CheckSet, writeSet)
}

// GetSet reads what is to be set.
func GetSet(r *xdr.Reader) (api.Set, api.Errno) {
	return get(r, readSet, CheckSet)
}

// Empty tells whether nothing is to be set.
func Empty(s api.Set) bool {
	return !s.Mode.Is && !s.Uid.Is && !s.Gid.Is && !s.Size.Is && !s.Time.Is
}

// Apply is attributes with what is to be set, but the size.
func Apply(a api.Attr, s api.Set, now int) api.Attr {
	if Empty(s) {
		return a
	}
	a.Change = now
	// Ahead of Time: a time that is set, too, stands.
	if s.Size.Is {
		a.Time = now
	}
	a.Mode = chosen(s.Mode, a.Mode)
	a.Uid = chosen(s.Uid, a.Uid)
	a.Gid = chosen(s.Gid, a.Gid)
	a.Time = chosen(s.Time, a.Time)
	return a
}

// chosen is the number of an option or, if it has none, the one that was.
func chosen(o api.Opt, was int) int {
	if o.Is {
		return o.N
	}
	return was
}

func writeSet(w *xdr.Writer, s api.Set) {
	w.Opt(s.Mode)
	w.Opt(s.Uid)
	w.Opt(s.Gid)
	w.Opt(s.Size)
	w.Opt(s.Time)
}

func readSet(r *xdr.Reader) api.Set {
	return api.Set{Mode: r.Opt(), Uid: r.Opt(), Gid: r.Opt(), Size: r.Opt(), Time: r.Opt()}
}
