package store

import (
	"slices"

	"posthouse/api"
	"posthouse/index"
	"posthouse/rec"
	"posthouse/xdr"
)

// perRecord is how many changes a record of a cache's text has, but for the last one.
const perRecord = 16

// text is a cache as a text.
func text(c api.Cache) string {
	records := slices.Collect(slices.Chunk(rec.Changes(c), perRecord))
	w := &xdr.Writer{}
	w.U32(len(records))
	for _, l := range records {
		// What makes a valid cache is valid, and so few changes always have a record.
		record, _ := rec.Put(l)
		w.Opaque(record)
	}
	return w.Text()
}

// read is the cache of a text, and whether the text is one's.
func read(stored string) (api.Cache, bool) {
	r := xdr.Read(stored)
	var all []api.Change
	for range r.U32() {
		// Where bytes are missing there is an empty text, which is no record: so this ends, whatever the number is.
		l, err := rec.Get(r.Opaque(len(stored)))
		if err != api.OK {
			return api.Cache{}, false
		}
		all = append(all, l...)
	}
	c, is := index.All(api.Cache{}, all)
	// Other changes may make a cache, too, but are not its text.
	return c, is && r.Done() == api.OK && slices.Equal(all, rec.Changes(c))
}
