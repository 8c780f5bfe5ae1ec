package rpc

import (
	"posthouse/api"
	"posthouse/xdr"
)

// The numbers that each message's second one may be.
const (
	isCall  = 0
	isReply = 1
)

// The numbers that make a call one of this protocol and this program, in its one version.
const (
	protocol = 2
	program  = 100003
	version  = 3
)

// missing is thrown when bytes end ahead of a number that a message must have.
type missing struct{}

// head is the numbers ahead of a message's body.
func head(m api.Message) []int {
	if m.Answer {
		return []int{m.Xid, isReply, 0, flag(m.Again), 0, m.Accept}
	}
	by := m.Cred
	return []int{m.Xid, isCall, protocol, program, version, m.Proc, 1, 16, by.Client, by.Seq, by.Uid, by.Gid, 0, 0}
}

// flag is the number that stands for a boolean.
func flag(is bool) int {
	if is {
		return 1
	}
	return 0
}

// read is the message of bytes; if a number is missing, that is thrown.
func read(s string) (api.Message, api.Errno) {
	r := xdr.Read(s)
	xid := number(r)
	switch number(r) {
	case isCall:
		return readCall(s, xid, r)
	case isReply:
		return readReply(s, xid, r)
	}
	return api.Message{}, api.ErrForm
}

// readCall is the call of bytes, of which r has read the first two numbers.
func readCall(s string, xid int, r *xdr.Reader) (api.Message, api.Errno) {
	if number(r) != protocol {
		return api.Message{}, api.ErrForm
	}
	if number(r) != program {
		return rejected(xid, api.AcceptProg)
	}
	if number(r) != version {
		return rejected(xid, api.AcceptVers)
	}
	m := api.Message{Xid: xid, Proc: number(r)}
	skip(r, 2)
	m.Cred = api.Cred{Client: number(r), Seq: number(r), Uid: number(r), Gid: number(r)}
	skip(r, 2)
	m.Body = rest(r)
	if !exists(m.Proc) {
		return rejected(xid, api.AcceptProc)
	}
	if !hasBytes(m, s) {
		return rejected(xid, api.AcceptGarble)
	}
	return m, api.OK
}

// readReply is the reply of bytes, of which r has read the first two numbers.
func readReply(s string, xid int, r *xdr.Reader) (api.Message, api.Errno) {
	m := api.Message{Xid: xid, Answer: true}
	skip(r, 1)
	m.Again = number(r) != 0
	skip(r, 1)
	m.Accept = number(r)
	m.Body = rest(r)
	if !hasBytes(m, s) {
		return api.Message{}, api.ErrForm
	}
	return m, api.OK
}

// rejected is what a call is read as that can't be accepted.
func rejected(xid, accept int) (api.Message, api.Errno) {
	return api.Message{Xid: xid, Accept: accept}, api.OK
}

// number takes a number that must be there.
func number(r *xdr.Reader) int {
	n := r.U32()
	if r.Err() != api.OK {
		panic(missing{})
	}
	return n
}

// skip takes so many numbers that must be there, but tell nothing; hasBytes holds them against what they must be.
func skip(r *xdr.Reader, count int) {
	for range count {
		number(r)
	}
}

// rest takes all bytes that are left; none if four does not divide how many they are, which no message has.
func rest(r *xdr.Reader) string {
	return r.Fixed(r.Left())
}

// hasBytes tells whether a message is valid and has exactly these bytes: so what was skipped, and what rest left, is tested too.
func hasBytes(m api.Message, s string) bool {
	bytes, err := Put(m)
	return err == api.OK && bytes == s
}
