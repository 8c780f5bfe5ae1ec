package rec_test

import (
	"encoding/binary"
	"math"
	"slices"
	"strings"

	"posthouse/api"
)

// high is the highest 32-bit number.
const high = 1<<32 - 1

// kinds is how many kinds there are, from 1 on.
const kinds = 9

// layout is the fields of each kind's changes, by the chapter's words, in the order of their bytes; none if there is no such kind.
func layout(kind int) []string {
	all := [...]string{"", "Epoch Serial Up", "Epoch Serial", "Up Attr", "Up", "Up", "Up Name Child", "Up Name", "Up No Slot", "Up No"}
	if kind < 1 || kind > kinds {
		return nil
	}
	return strings.Fields(all[kind])
}

// bytes32 and bytes64 are numbers' bytes, bytesText a string's, and bytesAttr those of attributes.
func bytes32(n int) string { return string(binary.BigEndian.AppendUint32(nil, uint32(n))) }
func bytes64(n int) string { return string(binary.BigEndian.AppendUint64(nil, uint64(n))) }

func bytesText(s string) string {
	return bytes32(len(s)) + s + strings.Repeat("\x00", (4-len(s)%4)%4)
}

func bytesAttr(a api.Attr) string {
	return bytes32(a.Type) + bytes32(a.Mode) + bytes32(a.Nlink) + bytes32(a.Uid) + bytes32(a.Gid) +
		bytes64(a.Size) + bytes32(a.Id) + bytes64(a.Gen) + bytes64(a.Change) + bytes64(a.Time)
}

// fieldBytes is the bytes of one field.
func fieldBytes(x api.Change, name string) string {
	switch name {
	case "Epoch":
		return bytes32(x.Epoch)
	case "Serial":
		return bytes64(x.Serial)
	case "Up":
		return bytesText(x.Up)
	case "Name":
		return bytesText(x.Name)
	case "Child":
		return bytesText(x.Child)
	case "Attr":
		return bytesAttr(x.Attr)
	case "No":
		return bytes32(x.No)
	}
	return bytes32(x.Slot)
}

// bytesOf is the bytes of a change, and recordOf the record of changes.
func bytesOf(x api.Change) string {
	all := bytes32(x.Kind)
	for _, name := range layout(x.Kind) {
		all += fieldBytes(x, name)
	}
	return all
}

func recordOf(l []api.Change) string {
	all := bytes32(len(l))
	for _, x := range l {
		all += bytesOf(x)
	}
	return all
}

// validAttr tells by the words of the attributes' chapter whether they are valid.
func validAttr(a api.Attr) bool {
	narrow := func(n int) bool { return n >= 0 && n <= high }
	return a.Type >= 1 && a.Type <= 7 && a.Mode >= 0 && a.Mode <= 4095 && narrow(a.Nlink) && narrow(a.Uid) && narrow(a.Gid) &&
		a.Size >= 0 && narrow(a.Id) && a.Gen >= 0 && a.Change >= 0 && a.Time >= 0
}

// valid tells by the chapter's words whether a change is valid.
func valid(x api.Change) bool {
	has := func(name string) bool { return slices.Contains(layout(x.Kind), name) }
	number := func(name string, n, least, most int) bool {
		return has(name) && n >= least && n <= most || !has(name) && n == 0
	}
	text := func(name, s string, least, most int) bool {
		return has(name) && len(s) >= least && len(s) <= most || !has(name) && s == ""
	}
	return x.Kind >= 1 && x.Kind <= kinds &&
		number("Epoch", x.Epoch, 1, high) && number("Serial", x.Serial, 1, math.MaxInt) &&
		text("Up", x.Up, 1, 64) && text("Name", x.Name, 1, 255) && text("Child", x.Child, 0, 64) &&
		(has("Attr") && validAttr(x.Attr) || !has("Attr") && x.Attr == (api.Attr{})) &&
		number("No", x.No, 0, 65535) && number("Slot", x.Slot, 0, 65535)
}

// cursor takes values off the front of bytes, as they come; what is missing is zero.
type cursor struct{ rest string }

func (c *cursor) take(n int) string {
	n = min(n, len(c.rest))
	part := c.rest[:n]
	c.rest = c.rest[n:]
	return part
}

func (c *cursor) u32() int {
	return int(binary.BigEndian.Uint32([]byte(c.take(4) + "\x00\x00\x00\x00")))
}

func (c *cursor) u64() int {
	return int(binary.BigEndian.Uint64([]byte(c.take(8) + strings.Repeat("\x00", 8))))
}

func (c *cursor) text() string {
	n := c.u32()
	s := c.take(n)
	c.take((4 - n%4) % 4)
	return s
}

func (c *cursor) attr() (a api.Attr) {
	a.Type, a.Mode, a.Nlink, a.Uid, a.Gid = c.u32(), c.u32(), c.u32(), c.u32(), c.u32()
	a.Size, a.Id, a.Gen, a.Change, a.Time = c.u64(), c.u32(), c.u64(), c.u64(), c.u64()
	return a
}

func (c *cursor) field(x *api.Change, name string) {
	switch name {
	case "Epoch":
		x.Epoch = c.u32()
	case "Serial":
		x.Serial = c.u64()
	case "Up":
		x.Up = c.text()
	case "Name":
		x.Name = c.text()
	case "Child":
		x.Child = c.text()
	case "Attr":
		x.Attr = c.attr()
	case "No":
		x.No = c.u32()
	case "Slot":
		x.Slot = c.u32()
	}
}

// changesOf is the valid changes whose record these bytes are, and whether there are such: taken as they come, and held against their record.
func changesOf(s string) ([]api.Change, bool) {
	c := &cursor{s}
	n := c.u32()
	if n > 16 {
		return nil, false
	}
	var l []api.Change
	for range n {
		x := api.Change{Kind: c.u32()}
		for _, name := range layout(x.Kind) {
			c.field(&x, name)
		}
		if !valid(x) {
			return nil, false
		}
		l = append(l, x)
	}
	return l, recordOf(l) == s
}
