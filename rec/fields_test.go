package rec_test

import (
	"math"
	"slices"
	"strconv"
	"strings"
	"testing"

	"posthouse/api"
)

// value is what a field can have: how it is put there, its bytes, whether it is valid, and whether it is zero.
type value struct {
	name  string
	put   func(x *api.Change)
	bytes string
	valid bool
	zero  bool
}

// field is a field of changes, with values at its edges, valid ones and others.
type field struct {
	name   string
	values []value
}

func fields() []field {
	return []field{
		{"Epoch", numbers(func(x *api.Change) *int { return &x.Epoch }, bytes32, 1, high)},
		{"Serial", numbers(func(x *api.Change) *int { return &x.Serial }, bytes64, 1, math.MaxInt)},
		{"Up", texts(func(x *api.Change) *string { return &x.Up }, 1, 64)},
		{"Name", texts(func(x *api.Change) *string { return &x.Name }, 1, 255)},
		{"Child", texts(func(x *api.Change) *string { return &x.Child }, 0, 64)},
		{"Attr", attrs()},
		{"No", numbers(func(x *api.Change) *int { return &x.No }, bytes32, 0, 65535)},
		{"Slot", numbers(func(x *api.Change) *int { return &x.Slot }, bytes32, 0, 65535)},
	}
}

// has tells whether the changes of a kind have that field.
func (f field) has(kind int) bool { return slices.Contains(layout(kind), f.name) }

// edges is numbers at the edges of what fields may have, and beyond.
func edges() []int {
	return []int{0, 1, 2, 3, 7, 8, 255, 256, 4095, 4096, 65534, 65535, 65536, 65537, 1<<31 - 1, 1 << 31, high - 1, high, high + 1, high + 2, 1 << 33, math.MaxInt - 1, math.MaxInt,
		-1, -2, -65535, -65536, -high, -high - 1, -high - 2, math.MinInt, math.MinInt + 1}
}

// numbers is numbers for a field that has some from least to most.
func numbers(of func(x *api.Change) *int, bytes func(int) string, least, most int) []value {
	var values []value
	for _, n := range edges() {
		values = append(values, value{
			name:  strconv.Itoa(n),
			put:   func(x *api.Change) { *of(x) = n },
			bytes: bytes(n),
			valid: n >= least && n <= most,
			zero:  n == 0,
		})
	}
	return values
}

// texts is strings for a field that may have from least to most bytes.
func texts(of func(x *api.Change) *string, least, most int) []value {
	list := []string{"", "a", "ab", "abc", "abcd", "abcde", "\x00", "\x00\x00\x00\x00", "a\x00", "\x00a", "\x7f\x80\xc3\xff", "\xff", "/", "..", "\u00e9\u4e16", "a b\n"}
	for _, n := range []int{24, 25, 48, 61, 62, 63, 64, 65, 66, 67, 68, 128, 252, 253, 254, 255, 256, 257, 260, 1000, 1 << 20, 1<<20 + 1} {
		list = append(list, strings.Repeat("t", n), strings.Repeat("\x00", n))
	}
	var values []value
	for _, s := range list {
		values = append(values, value{
			name:  strconv.Quote(s[:min(len(s), 8)]) + " of so many bytes: " + strconv.Itoa(len(s)),
			put:   func(x *api.Change) { *of(x) = s },
			bytes: bytesText(s),
			valid: len(s) >= least && len(s) <= most,
			zero:  s == "",
		})
	}
	return values
}

// attrs is attributes: none, some, and some of which one number is at its edges, alone or with others.
func attrs() []value {
	of := map[string]func(a *api.Attr) *int{
		"Type": func(a *api.Attr) *int { return &a.Type }, "Mode": func(a *api.Attr) *int { return &a.Mode },
		"Nlink": func(a *api.Attr) *int { return &a.Nlink }, "Uid": func(a *api.Attr) *int { return &a.Uid },
		"Gid": func(a *api.Attr) *int { return &a.Gid }, "Size": func(a *api.Attr) *int { return &a.Size },
		"Id": func(a *api.Attr) *int { return &a.Id }, "Gen": func(a *api.Attr) *int { return &a.Gen },
		"Change": func(a *api.Attr) *int { return &a.Change }, "Time": func(a *api.Attr) *int { return &a.Time },
	}
	var values []value
	for name, number := range of {
		for _, n := range edges() {
			for _, a := range []api.Attr{{}, {Type: api.TypeReg}, someFile()} {
				*number(&a) = n
				values = append(values, value{
					name:  name + " " + strconv.Itoa(n),
					put:   func(x *api.Change) { x.Attr = a },
					bytes: bytesAttr(a),
					valid: validAttr(a),
					zero:  a == api.Attr{},
				})
			}
		}
	}
	return values
}

// swapped is the bytes of a change in which one field has other bytes.
func swapped(x api.Change, f field, bytes string) string {
	all := bytes32(x.Kind)
	for _, name := range layout(x.Kind) {
		if name == f.name {
			all += bytes
			continue
		}
		all += fieldBytes(x, name)
	}
	return all
}

// P17.1, P17.2: each field that a kind has, at its edges, with all others ordinary, and with the least.
func TestFieldsThatAreThere(t *testing.T) {
	list := fields()
	for _, p := range slices.Concat(ordinary(), least()) {
		for _, f := range list {
			if !f.has(p.change.Kind) {
				continue
			}
			for _, v := range f.values {
				x := p.change
				v.put(&x)
				bytes := swapped(p.change, f, v.bytes)
				if v.valid {
					holdsOne(t, f.name+" "+v.name, pair{x, bytes})
					continue
				}
				refusedOne(t, f.name+" "+v.name, x)
			}
		}
	}
}

// P17.1: each field that a kind does not have, with zero, and with any other value, be it valid elsewhere or not.
func TestFieldsThatAreNotThere(t *testing.T) {
	list := fields()
	for _, p := range slices.Concat(ordinary(), least()) {
		for _, f := range list {
			if f.has(p.change.Kind) {
				continue
			}
			for _, v := range f.values {
				x := p.change
				v.put(&x)
				if v.zero {
					holdsOne(t, f.name+" that is not there", p)
					continue
				}
				refusedOne(t, f.name+" "+v.name, x)
			}
		}
	}
}

// P17.1: two fields with any values: the change is valid only if both are.
func TestTwoFields(t *testing.T) {
	list := fields()
	edge := func(f field) []value {
		good := slices.IndexFunc(f.values, func(v value) bool { return v.valid && !v.zero })
		bad := slices.IndexFunc(f.values, func(v value) bool { return !v.valid })
		zero := slices.IndexFunc(f.values, func(v value) bool { return v.zero })
		return []value{f.values[good], f.values[bad], f.values[zero]}
	}
	for _, p := range slices.Concat(ordinary(), least()) {
		for _, f := range list {
			for _, g := range list {
				for _, v := range edge(f) {
					for _, w := range edge(g) {
						x := p.change
						v.put(&x)
						w.put(&x)
						if valid(x) {
							holdsOne(t, f.name+" and "+g.name, pair{x, bytesOf(x)})
							continue
						}
						refusedOne(t, f.name+" and "+g.name, x)
					}
				}
			}
		}
	}
}
