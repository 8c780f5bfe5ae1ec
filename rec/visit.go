package rec

import (
	"math"

	"posthouse/api"
)

const (
	maxName  = 255   // bytes of a name: as many as calls may have, which is more than the server allows
	maxPlace = 65535 // the highest number of a block, and of a slot
)

// coder is what writes fields, reads them, or asks whether they are valid: a function for each form that a field can have, with what is the least and the most of it.
type coder struct {
	kind   func(n *int)
	number func(n *int, least, most int)
	wide   func(n *int, least int)
	text   func(s *string, least, most int)
	attr   func(a *api.Attr)
}

// visit goes through changes, from label to label: it hands each field that a change has, in the order of their bytes, to the function for its form. It ends where a kind is none, and tells so.
func visit(l []api.Change, by coder) (known bool) {
	var x *api.Change
change:
	if len(l) == 0 {
		return true
	}
	x, l = &l[0], l[1:]
	by.kind(&x.Kind)
	switch x.Kind {
	case api.ChHold, api.ChFree:
		goto handle
	case api.ChFile, api.ChGone, api.ChBare, api.ChName, api.ChUnname, api.ChBlock, api.ChUnblock:
		goto up
	}
	return false
handle:
	by.number(&x.Epoch, 1, math.MaxUint32)
	by.wide(&x.Serial, 1)
	if x.Kind == api.ChFree {
		goto change
	}
up:
	by.text(&x.Up, 1, api.MaxFh)
	switch x.Kind {
	case api.ChFile:
		goto attributes
	case api.ChName, api.ChUnname:
		goto name
	case api.ChBlock, api.ChUnblock:
		goto block
	}
	goto change
attributes:
	by.attr(&x.Attr)
	goto change
name:
	by.text(&x.Name, 1, maxName)
	if x.Kind == api.ChName {
		by.text(&x.Child, 0, api.MaxFh)
	}
	goto change
block:
	by.number(&x.No, 0, maxPlace)
	if x.Kind == api.ChBlock {
		by.number(&x.Slot, 0, maxPlace)
	}
	goto change
}
