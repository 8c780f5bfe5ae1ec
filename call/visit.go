package call

import "posthouse/api"

// maxText is the most bytes of a name, and of a link's text, in a call's bytes: more than the server allows, so that it can tell why not.
const maxText = 255

// coder is what writes fields, or reads them: a function for each form that a field can have.
type coder struct {
	text   func(s *string, most int)
	narrow func(n *int)
	wide   func(n *int)
	option func(o *api.Opt)
	set    func(s *api.Set)
}

// visit hands each field that a call has, in the order of their bytes, to the function for its form.
func visit(c *api.Call, by coder) {
	for _, letter := range Fields(c.Proc) {
		switch letter {
		case 'f':
			by.text(&c.Fh, api.MaxFh)
		case 'n':
			by.text(&c.Name, maxText)
		case 'F':
			by.text(&c.Fh2, api.MaxFh)
		case 'N':
			by.text(&c.Name2, maxText)
		case 'o':
			by.wide(&c.Offset)
		case 'c':
			by.narrow(&c.Count)
		case 'h':
			by.narrow(&c.How)
		case 'd':
			by.text(&c.Data, api.MaxIO)
		case 's':
			by.set(&c.Set)
		case 'g':
			by.option(&c.Guard)
		case 'k':
			by.wide(&c.Cookie)
		case 'v':
			by.wide(&c.Verf)
		case 't':
			by.text(&c.Text, maxText)
		}
	}
}
