package rpc_test

import (
	"strings"
	"testing"

	"posthouse/api"
	"posthouse/rpc"
)

// high is the highest 32-bit number.
const high = 1<<32 - 1

// procs is how many procedures there are, from 0 on.
const procs = 22

// longest is the most bytes of a message, and the sizes are those of a message without a body.
const (
	longest   = 2048
	callSize  = 56
	replySize = 24
)

// bytes32 is a 32-bit number's bytes.
func bytes32(n int) string {
	return string([]byte{byte(n >> 24), byte(n >> 16), byte(n >> 8), byte(n)})
}

// join is the bytes of 32-bit numbers.
func join(numbers ...int) string {
	var all strings.Builder
	for _, n := range numbers {
		all.WriteString(bytes32(n))
	}
	return all.String()
}

// pair is a message and its bytes.
type pair struct {
	message api.Message
	bytes   string
}

// someCall is a valid call of which each number is another one, and its bytes.
func someCall(proc int, body string) pair {
	m := api.Message{Xid: 0x01020304, Proc: proc, Cred: api.Cred{Client: 3, Seq: 0x11121314, Uid: 0x21222324, Gid: 0xf1f2f3f4}, Body: body}
	bytes := "\x01\x02\x03\x04" + "\x00\x00\x00\x00" + "\x00\x00\x00\x02" + "\x00\x01\x86\xa3" + "\x00\x00\x00\x03" +
		"\x00\x00\x00" + string(rune(proc)) + "\x00\x00\x00\x01" + "\x00\x00\x00\x10" +
		"\x00\x00\x00\x03" + "\x11\x12\x13\x14" + "\x21\x22\x23\x24" + "\xf1\xf2\xf3\xf4" +
		"\x00\x00\x00\x00" + "\x00\x00\x00\x00"
	return pair{m, bytes + body}
}

// oddBody is a body with bytes 0 and bytes above 127, which are no UTF-8.
const oddBody = "\x00\xff\x80a\xc3\x00\x00\x00"

// ordinary is calls of each procedure and replies with each Accept, and their bytes.
func ordinary() []pair {
	list := []pair{
		{api.Message{Answer: true}, join(0, 1, 0, 0, 0, 0)},
		{api.Message{Xid: 0xfedcba98, Answer: true, Body: oddBody}, "\xfe\xdc\xba\x98" + join(1, 0, 0, 0, 0) + oddBody},
		{api.Message{Xid: 7, Answer: true, Again: true}, join(7, 1, 0, 1, 0, 0)},
		{api.Message{Xid: 7, Answer: true, Again: true, Body: "body"}, join(7, 1, 0, 1, 0, 0) + "body"},
		{api.Message{Xid: 7, Answer: true, Accept: api.AcceptProg}, join(7, 1, 0, 0, 0, 1)},
		{api.Message{Xid: 7, Answer: true, Accept: api.AcceptVers}, join(7, 1, 0, 0, 0, 2)},
		{api.Message{Xid: 7, Answer: true, Accept: api.AcceptProc}, join(7, 1, 0, 0, 0, 3)},
		{api.Message{Xid: 7, Answer: true, Accept: api.AcceptGarble}, join(7, 1, 0, 0, 0, 4)},
		{api.Message{Cred: api.Cred{Client: 1, Seq: 1}}, join(0, 0, 2, 100003, 3, 0, 1, 16, 1, 1, 0, 0, 0, 0)},
	}
	for proc := range procs {
		for _, body := range []string{"", "body", oddBody, join(0, 1, 2, 3, 4, 5, 6, 7, 8, 9)} {
			list = append(list, someCall(proc, body))
		}
	}
	return list
}

// holds tells whether a message is valid, has these bytes, and is what these bytes are read as.
func holds(t *testing.T, name string, p pair) {
	t.Helper()
	if err := rpc.Check(p.message); err != api.OK {
		t.Errorf("%s: Check(%+v) = %d", name, p.message, err)
	}
	if got, err := rpc.Put(p.message); got != p.bytes || err != api.OK {
		t.Errorf("%s: Put(%+v) = %x, error %d, want %x", name, p.message, got, err, p.bytes)
	}
	reads(t, name, p.bytes, p.message)
}

// reads tells whether bytes are read as that message.
func reads(t *testing.T, name, bytes string, want api.Message) {
	t.Helper()
	if got, err := rpc.Get(bytes); got != want || err != api.OK {
		t.Errorf("%s: Get(%x) = %+v, error %d, want %+v", name, bytes, got, err, want)
	}
}

// rejects tells whether bytes are read as a rejected call with that reason.
func rejects(t *testing.T, name, bytes string, xid, accept int) {
	t.Helper()
	reads(t, name, bytes, api.Message{Xid: xid, Accept: accept})
}

// refused tells whether a message is refused, and has no bytes.
func refused(t *testing.T, name string, m api.Message) {
	t.Helper()
	if err := rpc.Check(m); err != api.ErrForm {
		t.Errorf("%s: Check(%+v) = %d", name, m, err)
	}
	if got, err := rpc.Put(m); got != "" || err != api.ErrForm {
		t.Errorf("%s: Put(%+v) = %x, error %d", name, m, got, err)
	}
}

// fails tells whether bytes are refused with that error, and a zero message is answered.
func fails(t *testing.T, name, bytes string, want api.Errno) {
	t.Helper()
	if got, err := rpc.Get(bytes); got != (api.Message{}) || err != want {
		t.Errorf("%s: Get(%x) = %+v, error %d, want %d", name, bytes, got, err, want)
	}
}

// P9.1, P9.2, P9.4: calls of each procedure, replies with each Accept, and their bytes.
func TestOrdinary(t *testing.T) {
	for _, p := range ordinary() {
		holds(t, "ordinary", p)
	}
}

// P9.1: the document's examples.
func TestExamples(t *testing.T) {
	null := api.Message{Xid: 9, Cred: api.Cred{Client: 1, Seq: 1, Uid: 5, Gid: 5}}
	if got, err := rpc.Put(null); len(got) != 56 || err != api.OK {
		t.Errorf("a call of NULL has %d bytes, error %d", len(got), err)
	}
	garble := api.Message{Xid: 9, Answer: true, Accept: api.AcceptGarble}
	if got, err := rpc.Put(garble); len(got) != 24 || err != api.OK {
		t.Errorf("a reply with AcceptGarble has %d bytes, error %d", len(got), err)
	}
	done := rpc.Answer(null, "\x00\x00\x00\x00")
	if got, err := rpc.Put(done); len(got) != 28 || err != api.OK {
		t.Errorf("a reply to NULL has %d bytes, error %d", len(got), err)
	}
}

// P9.3: Refuse and Answer keep the Xid alone, of whatever message, and take any accept and any body.
func TestRefuseAndAnswer(t *testing.T) {
	messages := []api.Message{
		{},
		{Xid: -1, Answer: true, Again: true, Proc: 99, Cred: api.Cred{Client: 9, Seq: -1, Uid: -2, Gid: -3}, Accept: 77, Body: "odd"},
		{Xid: high + 1, Again: true, Accept: -1, Body: strings.Repeat("x", longest+1)},
		{Xid: 5, Accept: api.AcceptProc},
	}
	for _, p := range ordinary() {
		messages = append(messages, p.message)
	}
	for _, m := range messages {
		for _, accept := range []int{0, 1, 2, 3, 4, 5, -1, high, -1 << 63, 1<<63 - 1} {
			if got, want := rpc.Refuse(m, accept), (api.Message{Xid: m.Xid, Answer: true, Accept: accept}); got != want {
				t.Errorf("Refuse(%+v, %d) = %+v", m, accept, got)
			}
		}
		for _, body := range []string{"", "a", "abc", "abcd", oddBody, strings.Repeat("\xff", longest+1)} {
			if got, want := rpc.Answer(m, body), (api.Message{Xid: m.Xid, Answer: true, Body: body}); got != want {
				t.Errorf("Answer(%+v, %q) = %+v", m, body, got)
			}
		}
	}
}

// P9.3, D1: what is answered to calls that are read, rejected ones too, is valid and survives.
func TestAnswersAreValid(t *testing.T) {
	for _, p := range ordinary() {
		m, err := rpc.Get(p.bytes)
		if err != api.OK {
			t.Fatal(err)
		}
		for accept := api.AcceptOK; accept <= api.AcceptGarble; accept++ {
			holds(t, "refused", pair{rpc.Refuse(m, accept), bytes32(m.Xid) + join(1, 0, 0, 0, accept)})
		}
		holds(t, "answered", pair{rpc.Answer(m, oddBody), bytes32(m.Xid) + join(1, 0, 0, 0, 0) + oddBody})
	}
	for accept, bytes := range []string{1: join(5, 0, 2, 100004), 2: join(5, 0, 2, 100003, 2), 3: join(5, 0, 2, 100003, 3, 22, 1, 16, 1, 1, 0, 0, 0, 0), 4: join(5, 0, 2, 100003, 3, 0, 1, 16, 0, 1, 0, 0, 0, 0)} {
		if accept == api.AcceptOK {
			continue
		}
		m, err := rpc.Get(bytes)
		if err != api.OK || m.Accept != accept {
			t.Errorf("Get(%x) = %+v, error %d", bytes, m, err)
		}
		refused(t, "rejected", m)
		holds(t, "refused", pair{rpc.Refuse(m, m.Accept), join(5, 1, 0, 0, 0, accept)})
	}
}
