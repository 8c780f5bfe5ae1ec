package attr_test

import (
	"math"
	"testing"

	"posthouse/api"
	"posthouse/attr"
)

// option is one option of a change: where it is, and the most that its number may be.
type option struct {
	name string
	of   func(s *api.Set) *api.Opt
	most int
}

func options() []option {
	return []option{
		{"Mode", func(s *api.Set) *api.Opt { return &s.Mode }, 4095},
		{"Uid", func(s *api.Set) *api.Opt { return &s.Uid }, high},
		{"Gid", func(s *api.Set) *api.Opt { return &s.Gid }, high},
		{"Size", func(s *api.Set) *api.Opt { return &s.Size }, math.MaxInt},
		{"Time", func(s *api.Set) *api.Opt { return &s.Time }, math.MaxInt},
	}
}

// that is a change with one option put in place of what it has there.
func that(s api.Set, o option, opt api.Opt) api.Set {
	*o.of(&s) = opt
	return s
}

// whole is a change that has all of its options, each with a number of its own.
func whole() api.Set {
	return api.Set{Mode: api.Opt{Is: true, N: 0o640}, Uid: api.Opt{Is: true, N: 11}, Gid: api.Opt{Is: true, N: 12}, Size: api.Opt{Is: true, N: 13}, Time: api.Opt{Is: true, N: 14}}
}

// setPairs is changes that have each option alone, all but each, all and none of them.
func setPairs() []pair[api.Set] {
	numbers := []string{"\x00\x00\x00\x00\x00\x00\x01\xa0", "\x00\x00\x00\x00\x00\x00\x00\x0b", "\x00\x00\x00\x00\x00\x00\x00\x0c", "\x00\x00\x00\x00\x00\x00\x00\x0d", "\x00\x00\x00\x00\x00\x00\x00\x0e"}
	var list []pair[api.Set]
	for has := range 32 {
		s, bytes := api.Set{}, ""
		for i, o := range options() {
			if has>>i&1 == 0 {
				bytes += no
				continue
			}
			full := whole()
			s = that(s, o, *o.of(&full))
			bytes += yes + numbers[i]
		}
		list = append(list, pair[api.Set]{s, bytes})
	}
	for _, p := range optPairs() {
		list = append(list, pair[api.Set]{api.Set{Mode: p.value, Uid: p.value, Gid: p.value, Size: p.value, Time: p.value}, p.bytes + p.bytes + p.bytes + p.bytes + p.bytes})
	}
	return append(list,
		pair[api.Set]{api.Set{Uid: api.Opt{Is: true, N: high}, Gid: api.Opt{Is: true, N: 1 << 31}}, no + yes + "\x00\x00\x00\x00\xff\xff\xff\xff" + yes + "\x00\x00\x00\x00\x80\x00\x00\x00" + no + no},
		pair[api.Set]{api.Set{Size: api.Opt{Is: true, N: math.MaxInt}, Time: api.Opt{Is: true, N: high + 1}}, no + no + no + yes + "\x7f\xff\xff\xff\xff\xff\xff\xff" + yes + "\x00\x00\x00\x01\x00\x00\x00\x00"},
	)
}

// invalidOpts is options that may not be, if the most that their number may be is that.
func invalidOpts(most int) []api.Opt {
	list := []api.Opt{{Is: true, N: -1}, {Is: true, N: -2}, {Is: true, N: math.MinInt}, {N: 1}, {N: -1}, {N: 4095}, {N: math.MaxInt}, {N: math.MinInt}}
	if most < math.MaxInt {
		list = append(list, api.Opt{Is: true, N: most + 1}, api.Opt{Is: true, N: most + 2}, api.Opt{Is: true, N: math.MaxInt}, api.Opt{N: most + 1})
	}
	return list
}

// P5.1, P5.2: each option at its edges, in a change with no other, and with all others.
func TestSetsOptions(t *testing.T) {
	for _, base := range []api.Set{{}, whole()} {
		if err := attr.CheckSet(base); err != api.OK {
			t.Errorf("CheckSet(%v) = %d", base, err)
		}
		for _, o := range options() {
			for _, opt := range []api.Opt{{}, {Is: true}, {Is: true, N: 1}, {Is: true, N: o.most - 1}, {Is: true, N: o.most}} {
				if err := attr.CheckSet(that(base, o, opt)); err != api.OK {
					t.Errorf("%s %v: error %d", o.name, opt, err)
				}
			}
			for _, opt := range invalidOpts(o.most) {
				if err := attr.CheckSet(that(base, o, opt)); err != api.ErrForm {
					t.Errorf("%s %v: error %d, want ErrForm", o.name, opt, err)
				}
				refused(t, sets(), that(base, o, opt))
			}
		}
	}
}

// P5.3: numbers of options that are read and are not valid, and what the reader meets behind them.
func TestSetsReadAndNotValid(t *testing.T) {
	for i, o := range options()[:3] {
		ahead, behind := "", ""
		for range i {
			ahead += no
		}
		for range 4 - i {
			behind += no
		}
		for _, n := range []int{o.most + 1, o.most + 2, high + 1, 1 << 62, math.MaxInt} {
			bytes := ahead + yes + bytes64(n) + behind
			fails(t, sets(), bytes, api.ErrForm)
			fails(t, sets(), bytes+"behind", api.ErrForm)
			fails(t, sets(), bytes[:len(bytes)-1], api.ErrShort)
			fails(t, sets(), bytes[:len(bytes)-4]+"\x00\x00\x00\x02", api.ErrBool)
			fails(t, sets(), bytes[:len(bytes)-4]+yes+"\x80\x00\x00\x00\x00\x00\x00\x00", api.ErrRange)
		}
	}
	for i := range options() {
		ahead, behind := zeros16[:4*i], zeros16[4*i:]
		fails(t, sets(), ahead+"\x00\x00\x00\x02"+behind, api.ErrBool)
		fails(t, sets(), ahead+"\xff\xff\xff\xff"+bytes64(5)+behind, api.ErrBool)
		fails(t, sets(), ahead+yes+"\x80\x00\x00\x00\x00\x00\x00\x00"+behind, api.ErrRange)
		fails(t, sets(), ahead+yes+"\xff\xff\xff\xff\xff\xff\xff\xff"+behind, api.ErrRange)
	}
}

// P5.4: a change is empty only without any option; the numbers don't tell.
func TestEmpty(t *testing.T) {
	if !attr.Empty(api.Set{}) || attr.Empty(whole()) {
		t.Errorf("without options %t, with all %t", attr.Empty(api.Set{}), attr.Empty(whole()))
	}
	for _, o := range options() {
		for _, n := range []int{0, 1, 4095, high, math.MaxInt} {
			if attr.Empty(that(api.Set{}, o, api.Opt{Is: true, N: n})) {
				t.Errorf("%s %d alone: empty", o.name, n)
			}
			if !attr.Empty(that(api.Set{}, o, api.Opt{N: n})) {
				t.Errorf("%s %d that is not there: not empty", o.name, n)
			}
		}
		if attr.Empty(that(whole(), o, api.Opt{})) {
			t.Errorf("all but %s: empty", o.name)
		}
	}
}

// P5.4: what each option alone makes of attributes, some of them together, all and none.
func TestApply(t *testing.T) {
	a := api.Attr{Type: 1, Mode: 0o4755, Nlink: 2, Uid: 21, Gid: 22, Size: 23, Id: 24, Gen: 25, Change: 26, Time: 27}
	is := func(n int) api.Opt { return api.Opt{Is: true, N: n} }
	for _, c := range []struct {
		name string
		set  api.Set
		want api.Attr
	}{
		{"nothing", api.Set{}, a},
		{"Mode", api.Set{Mode: is(0o640)}, api.Attr{Type: 1, Mode: 0o640, Nlink: 2, Uid: 21, Gid: 22, Size: 23, Id: 24, Gen: 25, Change: 9, Time: 27}},
		{"Mode 0", api.Set{Mode: is(0)}, api.Attr{Type: 1, Mode: 0, Nlink: 2, Uid: 21, Gid: 22, Size: 23, Id: 24, Gen: 25, Change: 9, Time: 27}},
		{"Uid", api.Set{Uid: is(31)}, api.Attr{Type: 1, Mode: 0o4755, Nlink: 2, Uid: 31, Gid: 22, Size: 23, Id: 24, Gen: 25, Change: 9, Time: 27}},
		{"Uid 0", api.Set{Uid: is(0)}, api.Attr{Type: 1, Mode: 0o4755, Nlink: 2, Uid: 0, Gid: 22, Size: 23, Id: 24, Gen: 25, Change: 9, Time: 27}},
		{"the Uid that is there", api.Set{Uid: is(21)}, api.Attr{Type: 1, Mode: 0o4755, Nlink: 2, Uid: 21, Gid: 22, Size: 23, Id: 24, Gen: 25, Change: 9, Time: 27}},
		{"Gid", api.Set{Gid: is(32)}, api.Attr{Type: 1, Mode: 0o4755, Nlink: 2, Uid: 21, Gid: 32, Size: 23, Id: 24, Gen: 25, Change: 9, Time: 27}},
		{"Gid 0", api.Set{Gid: is(0)}, api.Attr{Type: 1, Mode: 0o4755, Nlink: 2, Uid: 21, Gid: 0, Size: 23, Id: 24, Gen: 25, Change: 9, Time: 27}},
		{"Size", api.Set{Size: is(33)}, api.Attr{Type: 1, Mode: 0o4755, Nlink: 2, Uid: 21, Gid: 22, Size: 23, Id: 24, Gen: 25, Change: 9, Time: 9}},
		{"the Size that is there", api.Set{Size: is(23)}, api.Attr{Type: 1, Mode: 0o4755, Nlink: 2, Uid: 21, Gid: 22, Size: 23, Id: 24, Gen: 25, Change: 9, Time: 9}},
		{"Time", api.Set{Time: is(34)}, api.Attr{Type: 1, Mode: 0o4755, Nlink: 2, Uid: 21, Gid: 22, Size: 23, Id: 24, Gen: 25, Change: 9, Time: 34}},
		{"Time 0", api.Set{Time: is(0)}, api.Attr{Type: 1, Mode: 0o4755, Nlink: 2, Uid: 21, Gid: 22, Size: 23, Id: 24, Gen: 25, Change: 9, Time: 0}},
		{"Size and Time", api.Set{Size: is(33), Time: is(34)}, api.Attr{Type: 1, Mode: 0o4755, Nlink: 2, Uid: 21, Gid: 22, Size: 23, Id: 24, Gen: 25, Change: 9, Time: 34}},
		{"Size and Time 0", api.Set{Size: is(33), Time: is(0)}, api.Attr{Type: 1, Mode: 0o4755, Nlink: 2, Uid: 21, Gid: 22, Size: 23, Id: 24, Gen: 25, Change: 9, Time: 0}},
		{"Size and Mode", api.Set{Size: is(33), Mode: is(0o600)}, api.Attr{Type: 1, Mode: 0o600, Nlink: 2, Uid: 21, Gid: 22, Size: 23, Id: 24, Gen: 25, Change: 9, Time: 9}},
		{"all", whole(), api.Attr{Type: 1, Mode: 0o640, Nlink: 2, Uid: 11, Gid: 12, Size: 23, Id: 24, Gen: 25, Change: 9, Time: 14}},
		{"numbers that are not there", api.Set{Mode: api.Opt{N: 1}, Uid: api.Opt{N: 2}, Gid: api.Opt{N: 3}, Size: api.Opt{N: 4}, Time: api.Opt{N: 5}}, a},
		{"Mode, and numbers that are not there", api.Set{Mode: is(1), Uid: api.Opt{N: 2}, Gid: api.Opt{N: 3}, Size: api.Opt{N: 4}, Time: api.Opt{N: 5}}, api.Attr{Type: 1, Mode: 1, Nlink: 2, Uid: 21, Gid: 22, Size: 23, Id: 24, Gen: 25, Change: 9, Time: 27}},
	} {
		if got := attr.Apply(a, c.set, 9); got != c.want {
			t.Errorf("%s: %v, want %v", c.name, got, c.want)
		}
	}
}

// P5.4: now is what is given, be it below what was or 0.
func TestApplyNow(t *testing.T) {
	for _, now := range []int{0, 1, 26, math.MaxInt} {
		got := attr.Apply(some(), api.Set{Size: api.Opt{Is: true}}, now)
		want := some()
		want.Change, want.Time = now, now
		if got != want {
			t.Errorf("now %d: %v, want %v", now, got, want)
		}
	}
}
