package reply

import "posthouse/api"

// maxEntryName is the most bytes of an entry's name in results' bytes.
const maxEntryName = 255

// maxEntries and maxNums are how long the lists of results may be.
const (
	maxEntries = 64
	maxNums    = 16
)

// coder is what writes fields, or reads them: a function for each form that a field, or a list's length, can have. A length above the most becomes 0.
type coder struct {
	narrow  func(n *int)
	wide    func(n *int)
	boolean func(is *bool)
	text    func(s *string, most int)
	length  func(n *int, most int)
	post    func(p *api.Post)
	wcc     func(c *api.Wcc)
}

// visit hands the status, and each field that results with that status have, in the order of their bytes, to the function for its form.
func visit(proc int, r *api.Reply, by coder) {
	status := int(r.Status)
	by.narrow(&status)
	r.Status = api.Status(status)
	for _, letter := range Fields(proc, r.Status == api.StOK) {
		switch letter {
		case 'h':
			by.text(&r.Fh, api.MaxFh)
		case 'a':
			by.post(&r.Obj)
		case 'D':
			by.post(&r.Dir)
		case 'w':
			by.wcc(&r.Wcc)
		case 'W':
			by.wcc(&r.Wcc2)
		case 'x':
			by.narrow(&r.Access)
		case 'c':
			by.narrow(&r.Count)
		case 'e':
			by.boolean(&r.Eof)
		case 'd':
			by.text(&r.Data, api.MaxIO)
		case 's':
			by.narrow(&r.Stable)
		case 'v':
			by.wide(&r.Verf)
		case 'l':
			visitList(&r.Entries, maxEntries, by.length, by.entry)
		case 'p':
			visitList(&r.Entries, maxEntries, by.length, func(e *api.Entry) {
				by.entry(e)
				by.post(&e.Attr)
				by.text(&e.Fh, api.MaxFh)
			})
		case 'n':
			visitList(&r.Nums, maxNums, by.length, by.wide)
		}
	}
}

// entry hands on the fields that every entry has.
func (by coder) entry(e *api.Entry) {
	by.wide(&e.Gen)
	by.text(&e.Name, maxEntryName)
	by.wide(&e.Cookie)
}

// visitList hands a list's length, and then each element, to a function for it.
func visitList[T any](list *[]T, most int, length func(n *int, most int), element func(v *T)) {
	n := len(*list)
	length(&n, most)
	// So it is with a list that is read, which begins without elements, and with one that is too long to be written.
	if n != len(*list) {
		*list = make([]T, n)
	}
	for i := range *list {
		element(&(*list)[i])
	}
}
