package reply_test

import (
	"encoding/binary"

	"posthouse/api"
)

// Bytes of the fields in ordinary results.
const (
	yes   = "\x00\x00\x00\x01"
	no    = "\x00\x00\x00\x00"
	fine  = "\x00\x00\x00\x00"
	h     = "\x00\x00\x00\x01h\x00\x00\x00"
	n7    = "\x00\x00\x00\x07"
	n9    = "\x00\x00\x00\x09"
	wide  = "\x01\x02\x03\x04\x05\x06\x07\x08"
	n256  = "\x00\x00\x00\x00\x00\x00\x01\x00"
	text  = "\x00\x00\x00\x06a\x00b\xffcd\x00\x00"
	attr1 = "\x00\x00\x00\x01\x00\x00\x01\xa4\x00\x00\x00\x02\x01\x02\x03\x04\x05\x06\x07\x08" + wide + "\x00\x00\x00\x09" + n256 + "\x00\x00\x00\x00\x00\x00\x00\x0b\x00\x00\x00\x00\x00\x00\x00\x0c"
	attr2 = "\x00\x00\x00\x02\x00\x00\x0f\xff\x00\x00\x00\x03\x00\x00\x00\x04\x00\x00\x00\x05\x00\x00\x00\x00\x00\x00\x00\x06\x00\x00\x00\x07\x00\x00\x00\x00\x00\x00\x00\x08\x00\x00\x00\x00\x00\x00\x00\x09\x00\x00\x00\x00\x00\x00\x00\x0a"
	obj   = yes + attr1
	dir   = yes + attr2
	wcc   = yes + wide + yes + attr1
	wcc2  = yes + n256 + yes + attr2
)

func anAttr() api.Attr {
	return api.Attr{Type: 1, Mode: 0o644, Nlink: 2, Uid: 0x01020304, Gid: 0x05060708, Size: someWide, Id: 9, Gen: 256, Change: 11, Time: 12}
}

func aDir() api.Attr {
	return api.Attr{Type: 2, Mode: 4095, Nlink: 3, Uid: 4, Gid: 5, Size: 6, Id: 7, Gen: 8, Change: 9, Time: 10}
}

func there(a api.Attr) api.Post { return api.Post{Is: true, Attr: a} }

func aWcc() api.Wcc {
	return api.Wcc{Before: api.Opt{Is: true, N: someWide}, After: there(anAttr())}
}

func otherWcc() api.Wcc {
	return api.Wcc{Before: api.Opt{Is: true, N: 256}, After: there(aDir())}
}

// someWide is a 64-bit number of which each byte is another one.
const someWide = 0x0102030405060708

// someText is a string with bytes 0 and above 127.
const someText = "a\x00b\xffcd"

// ordinary is results of each procedure, in the order of their numbers, with StOK first, and their bytes.
func ordinary() []given {
	made := api.Reply{Fh: "h", Obj: there(anAttr()), Wcc: otherWcc()}
	some := []api.Entry{{Gen: 256, Name: someText, Cookie: someWide}, {Gen: someWide, Name: "h", Cookie: 256}}
	plus := []api.Entry{{Gen: 256, Name: someText, Cookie: someWide, Attr: there(aDir()), Fh: "h"}, {Gen: someWide, Name: "h", Cookie: 256}}
	nums := []int{someWide, 0, 256}
	const madeBytes = fine + h + obj + wcc2
	const numsBytes = "\x00\x00\x00\x03" + wide + no + no + n256
	const someBytes = "\x00\x00\x00\x02" + n256 + text + wide + wide + h + n256
	const plusBytes = "\x00\x00\x00\x02" + n256 + text + wide + dir + h + wide + h + n256 + no + no
	return []given{
		{0, api.Reply{}, fine},
		{0, api.Reply{Status: 70}, "\x00\x00\x00\x46"},
		{1, api.Reply{Obj: there(anAttr())}, fine + obj},
		{1, api.Reply{Status: 10001}, "\x00\x00\x27\x11"},
		{2, api.Reply{Wcc: aWcc()}, fine + wcc},
		{2, api.Reply{Status: 10002, Wcc: aWcc()}, "\x00\x00\x27\x12" + wcc},
		{3, api.Reply{Fh: "h", Obj: there(anAttr()), Dir: there(aDir())}, fine + h + obj + dir},
		{3, api.Reply{Status: 2, Dir: there(aDir())}, "\x00\x00\x00\x02" + dir},
		{4, api.Reply{Obj: there(anAttr()), Access: 7}, fine + obj + n7},
		{4, api.Reply{Status: 13, Obj: there(anAttr())}, "\x00\x00\x00\x0d" + obj},
		{5, api.Reply{Obj: there(anAttr()), Data: someText}, fine + obj + text},
		{5, api.Reply{Status: 22, Obj: there(anAttr())}, "\x00\x00\x00\x16" + obj},
		{6, api.Reply{Obj: there(anAttr()), Eof: true, Data: someText}, fine + obj + yes + text},
		{6, api.Reply{Status: 21, Obj: there(anAttr())}, "\x00\x00\x00\x15" + obj},
		{7, api.Reply{Wcc: aWcc(), Count: 7, Stable: 9, Verf: someWide}, fine + wcc + n7 + n9 + wide},
		{7, api.Reply{Status: 27, Wcc: aWcc()}, "\x00\x00\x00\x1b" + wcc},
		{8, made, madeBytes},
		{8, api.Reply{Status: 17, Wcc: otherWcc()}, "\x00\x00\x00\x11" + wcc2},
		{9, made, madeBytes},
		{9, api.Reply{Status: 28, Wcc: otherWcc()}, "\x00\x00\x00\x1c" + wcc2},
		{10, made, madeBytes},
		{10, api.Reply{Status: 69, Wcc: otherWcc()}, "\x00\x00\x00\x45" + wcc2},
		{11, made, madeBytes},
		{11, api.Reply{Status: 10007, Wcc: otherWcc()}, "\x00\x00\x27\x17" + wcc2},
		{12, api.Reply{Wcc: aWcc()}, fine + wcc},
		{12, api.Reply{Status: 63, Wcc: aWcc()}, "\x00\x00\x00\x3f" + wcc},
		{13, api.Reply{Wcc: aWcc()}, fine + wcc},
		{13, api.Reply{Status: 66, Wcc: aWcc()}, "\x00\x00\x00\x42" + wcc},
		{14, api.Reply{Wcc: aWcc(), Wcc2: otherWcc()}, fine + wcc + wcc2},
		{14, api.Reply{Status: 20, Wcc: aWcc(), Wcc2: otherWcc()}, "\x00\x00\x00\x14" + wcc + wcc2},
		{15, api.Reply{Obj: there(anAttr()), Wcc2: otherWcc()}, fine + obj + wcc2},
		{15, api.Reply{Status: 31, Obj: there(anAttr()), Wcc2: otherWcc()}, "\x00\x00\x00\x1f" + obj + wcc2},
		{16, api.Reply{Obj: there(aDir()), Verf: someWide, Entries: some, Eof: true}, fine + dir + wide + someBytes + yes},
		{16, api.Reply{Status: 10003, Obj: there(aDir())}, "\x00\x00\x27\x13" + dir},
		{17, api.Reply{Obj: there(aDir()), Verf: someWide, Entries: plus, Eof: true}, fine + dir + wide + plusBytes + yes},
		{17, api.Reply{Status: 10005, Obj: there(aDir())}, "\x00\x00\x27\x15" + dir},
		{18, api.Reply{Obj: there(aDir()), Nums: nums}, fine + dir + numsBytes},
		{18, api.Reply{Status: 1, Obj: there(aDir())}, yes + dir},
		{19, api.Reply{Obj: there(aDir()), Nums: nums}, fine + dir + numsBytes},
		{19, api.Reply{Status: 70, Obj: there(aDir())}, "\x00\x00\x00\x46" + dir},
		{20, api.Reply{Obj: there(aDir()), Nums: nums}, fine + dir + numsBytes},
		{20, api.Reply{Status: 70, Obj: there(aDir())}, "\x00\x00\x00\x46" + dir},
		{21, api.Reply{Wcc: aWcc(), Verf: someWide}, fine + wcc + wide},
		{21, api.Reply{Status: 13, Wcc: aWcc()}, "\x00\x00\x00\x0d" + wcc},
	}
}

// empties is the results of each procedure whose fields are all zero, with StOK and with another status, and their bytes.
func empties() []given {
	sizes := [procs]int{0, 4, 8, 12, 8, 8, 12, 24, 16, 16, 16, 16, 8, 8, 16, 12, 20, 20, 8, 8, 8, 16}
	failed := [procs]int{0, 0, 8, 4, 4, 4, 4, 8, 8, 8, 8, 8, 8, 8, 16, 12, 4, 4, 4, 4, 4, 8}
	var list []given
	for proc := range procs {
		list = append(list,
			given{proc, api.Reply{}, fine + string(make([]byte, sizes[proc]))},
			given{proc, api.Reply{Status: api.StStale}, "\x00\x00\x00\x46" + string(make([]byte, failed[proc]))})
	}
	return list
}

// bytes32 and bytes64 are numbers' bytes, and so on for each form of a field.
func bytes32(n int) string { return string(binary.BigEndian.AppendUint32(nil, uint32(n))) }
func bytes64(n int) string { return string(binary.BigEndian.AppendUint64(nil, uint64(n))) }

func bytesBool(is bool) string {
	if is {
		return yes
	}
	return no
}

func bytesText(s string) string {
	return bytes32(len(s)) + s + string(make([]byte, (4-len(s)%4)%4))
}

func bytesOpt(o api.Opt) string {
	if !o.Is {
		return no
	}
	return yes + bytes64(o.N)
}

func bytesAttr(a api.Attr) string {
	return bytes32(a.Type) + bytes32(a.Mode) + bytes32(a.Nlink) + bytes32(a.Uid) + bytes32(a.Gid) +
		bytes64(a.Size) + bytes32(a.Id) + bytes64(a.Gen) + bytes64(a.Change) + bytes64(a.Time)
}

func bytesPost(p api.Post) string {
	if !p.Is {
		return no
	}
	return yes + bytesAttr(p.Attr)
}

func bytesWcc(c api.Wcc) string { return bytesOpt(c.Before) + bytesPost(c.After) }

func bytesEntries(list []api.Entry, plus bool) string {
	all := bytes32(len(list))
	for _, e := range list {
		all += bytes64(e.Gen) + bytesText(e.Name) + bytes64(e.Cookie)
		if plus {
			all += bytesPost(e.Attr) + bytesText(e.Fh)
		}
	}
	return all
}

func bytesNums(list []int) string {
	all := bytes32(len(list))
	for _, n := range list {
		all += bytes64(n)
	}
	return all
}

// fieldBytes is the bytes of one field of results.
func fieldBytes(r api.Reply, letter rune) string {
	switch letter {
	case 'h':
		return bytesText(r.Fh)
	case 'a':
		return bytesPost(r.Obj)
	case 'D':
		return bytesPost(r.Dir)
	case 'w':
		return bytesWcc(r.Wcc)
	case 'W':
		return bytesWcc(r.Wcc2)
	case 'x':
		return bytes32(r.Access)
	case 'c':
		return bytes32(r.Count)
	case 'e':
		return bytesBool(r.Eof)
	case 'd':
		return bytesText(r.Data)
	case 's':
		return bytes32(r.Stable)
	case 'v':
		return bytes64(r.Verf)
	case 'l', 'p':
		return bytesEntries(r.Entries, letter == 'p')
	}
	return bytesNums(r.Nums)
}

// bytesOf is the bytes of results.
func bytesOf(proc int, r api.Reply) string {
	all := bytes32(int(r.Status))
	for _, letter := range layout(proc, r.Status == api.StOK) {
		all += fieldBytes(r, letter)
	}
	return all
}
