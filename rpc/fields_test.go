package rpc_test

import (
	"math"
	"strings"
	"testing"

	"posthouse/api"
	"posthouse/rpc"
)

// edge is values of one field of a message: those that a call may have and those that a reply may have, the others, and how one is put.
type edge struct {
	name              string
	put               func(m *api.Message, n int)
	inCall, inReply   []int
	outCall, outReply []int
	place             int // which of a call's numbers it is; -1: none
}

func edges() []edge {
	strange := []int{-1, -2, -high, -high - 1, math.MinInt, math.MinInt + 1, high + 1, high + 2, 1 << 40, math.MaxInt - 1, math.MaxInt}
	whole := []int{0, 1, 2, 255, 256, 1<<31 - 1, 1 << 31, high - 1, high}
	outside := func(more ...int) []int { return append(more, strange...) }
	notZero := outside(1, 2, high)
	zero := []int{0}
	known := make([]int, procs)
	for proc := range procs {
		known[proc] = proc
	}
	return []edge{
		{"Xid", func(m *api.Message, n int) { m.Xid = n }, whole, whole, strange, strange, 0},
		{"Proc", func(m *api.Message, n int) { m.Proc = n }, known, zero, outside(22, 23, 255, 256, high), outside(1, 21, 22, high), 5},
		{"Client", func(m *api.Message, n int) { m.Cred.Client = n }, []int{1, 2, 3, 4}, zero, outside(0, 5, 6, 256, high), notZero, 8},
		{"Seq", func(m *api.Message, n int) { m.Cred.Seq = n }, whole[1:], zero, outside(0), notZero, 9},
		{"Uid", func(m *api.Message, n int) { m.Cred.Uid = n }, whole, zero, strange, notZero, 10},
		{"Gid", func(m *api.Message, n int) { m.Cred.Gid = n }, whole, zero, strange, notZero, 11},
		{"Accept", func(m *api.Message, n int) { m.Accept = n }, zero, []int{0, 1, 2, 3, 4}, outside(1, 2, 3, 4, 5, high), outside(5, 6, 256, high), -1},
	}
}

// P9.1, P9.2, P9.4: each field of a call at its edges.
func TestEdgesOfCalls(t *testing.T) {
	for _, e := range edges() {
		for _, p := range []pair{someCall(7, oddBody), someCall(0, "")} {
			for _, n := range e.inCall {
				m, bytes := p.message, p.bytes
				e.put(&m, n)
				if e.place >= 0 {
					bytes = bytes[:4*e.place] + bytes32(n) + bytes[4*e.place+4:]
				}
				holds(t, e.name, pair{m, bytes})
			}
			for _, n := range e.outCall {
				m := p.message
				e.put(&m, n)
				refused(t, e.name, m)
			}
		}
	}
}

// P9.1, P9.2, P9.4: each field of a reply at its edges.
func TestEdgesOfReplies(t *testing.T) {
	for _, e := range edges() {
		for accept := range 5 {
			p := pair{api.Message{Xid: 5, Answer: true, Accept: accept}, join(5, 1, 0, 0, 0, accept)}
			for _, n := range e.inReply {
				m := p.message
				e.put(&m, n)
				holds(t, e.name, pair{m, bytes32(m.Xid) + join(1, 0, 0, 0, m.Accept)})
			}
			for _, n := range e.outReply {
				m := p.message
				e.put(&m, n)
				refused(t, e.name, m)
			}
		}
	}
}

// P9.1, P9.2: a body has a number of bytes that four divides, and as many at most as make the message MaxMessage bytes.
func TestBodies(t *testing.T) {
	for _, size := range []int{0, 1, 2, 3, 4, 5, 6, 7, 8, 100, 1000, 1991, 1992, 1993, 1996, 2020, 2023, 2024, 2025, 2028, 2048, 2052, 4096, 1 << 20} {
		body := strings.Repeat("\xe9", size)
		call, again := someCall(api.ProcWrite, body), api.Message{Answer: true, Again: true, Body: body}
		reply := pair{api.Message{Answer: true, Body: body}, join(0, 1, 0, 0, 0, 0) + body}
		for _, p := range []pair{call, reply, {again, join(0, 1, 0, 1, 0, 0) + body}} {
			if size%4 == 0 && len(p.bytes) <= longest {
				holds(t, "a body", p)
				continue
			}
			refused(t, "a body", p.message)
		}
		for accept := 1; accept <= 4; accept++ {
			m := api.Message{Answer: true, Accept: accept, Body: body}
			if size > 0 {
				refused(t, "a body where none may be", m)
			}
		}
	}
}

// P9.1, P9.2: the longest messages, four bytes more, and one more.
func TestLongest(t *testing.T) {
	zeros := strings.Repeat("\x00", longest-callSize)
	holds(t, "the longest call", someCall(7, zeros))
	refused(t, "four more", someCall(7, zeros+"\x00\x00\x00\x00").message)
	fails(t, "four more", someCall(7, zeros+"\x00\x00\x00\x00").bytes, api.ErrLong)
	fails(t, "one more", someCall(7, zeros+"\x00").bytes, api.ErrLong)
	rejects(t, "one less", someCall(7, zeros[1:]).bytes, 0x01020304, api.AcceptGarble)
	zeros = strings.Repeat("\x00", longest-replySize)
	head := join(7, 1, 0, 0, 0, 0)
	holds(t, "the longest reply", pair{api.Message{Xid: 7, Answer: true, Body: zeros}, head + zeros})
	refused(t, "four more", api.Message{Xid: 7, Answer: true, Body: zeros + "\x00\x00\x00\x00"})
	fails(t, "four more", head+zeros+"\x00\x00\x00\x00", api.ErrLong)
	fails(t, "one more", head+zeros+"\x00", api.ErrLong)
	fails(t, "one less", head+zeros[1:], api.ErrForm)
}

// P9.1: Again is for replies with AcceptOK alone.
func TestAgain(t *testing.T) {
	for _, p := range ordinary() {
		m := p.message
		m.Again = true
		if m.Answer && m.Accept == api.AcceptOK {
			bytes := p.bytes[:12] + bytes32(1) + p.bytes[16:]
			holds(t, "Again", pair{m, bytes})
			continue
		}
		refused(t, "Again", m)
	}
}

// P9.1: a message is a call or a reply, not something of both.
func TestNeitherCallNorReply(t *testing.T) {
	for _, p := range ordinary() {
		m := p.message
		m.Answer = !m.Answer
		refused(t, "turned round", m)
	}
	call := someCall(0, "").message
	for _, m := range []api.Message{
		{},
		{Xid: 5},
		{Xid: 5, Body: "body"},
		{Answer: true, Proc: 1},
		{Answer: true, Cred: call.Cred},
		{Answer: true, Cred: api.Cred{Client: 1}},
		{Answer: true, Cred: api.Cred{Seq: 1}},
		{Answer: true, Cred: api.Cred{Uid: 1}},
		{Answer: true, Cred: api.Cred{Gid: 1}},
		{Answer: true, Accept: 1, Body: "body"},
		{Answer: true, Accept: 4, Again: true},
		{Answer: true, Accept: 4, Again: true, Body: "body"},
	} {
		refused(t, "neither", m)
	}
}

// P9.1: a rejected call has no bytes.
func TestRejectedCallsHaveNoBytes(t *testing.T) {
	for accept := range 6 {
		refused(t, "rejected", api.Message{Xid: 5, Accept: accept})
		call := someCall(3, "body").message
		call.Accept = accept
		if accept != api.AcceptOK {
			refused(t, "rejected", call)
		}
	}
	if err := rpc.Check(someCall(3, "body").message); err != api.OK {
		t.Error(err)
	}
}
