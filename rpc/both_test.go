package rpc_test

import (
	"math"
	"math/rand"
	"strings"
	"testing"

	"posthouse/api"
	"posthouse/rpc"
)

// valid tells by the document's words whether a message is valid, and bytesOf what its bytes are.
func valid(m api.Message) bool {
	narrow := func(n int) bool { return n >= 0 && n <= high }
	if !narrow(m.Xid) || len(m.Body)%4 != 0 {
		return false
	}
	if m.Answer {
		return m.Proc == 0 && m.Cred == api.Cred{} && m.Accept >= 0 && m.Accept <= 4 && replySize+len(m.Body) <= longest && (m.Accept == 0 || m.Body == "" && !m.Again)
	}
	c := m.Cred
	return m.Proc >= 0 && m.Proc <= 21 && c.Client >= 1 && c.Client <= 4 && c.Seq >= 1 && c.Seq <= high && narrow(c.Uid) && narrow(c.Gid) && m.Accept == 0 && !m.Again && callSize+len(m.Body) <= longest
}

func bytesOf(m api.Message) string {
	if !m.Answer {
		c := m.Cred
		return join(m.Xid, 0, 2, 100003, 3, m.Proc, 1, 16, c.Client, c.Seq, c.Uid, c.Gid, 0, 0) + m.Body
	}
	again := 0
	if m.Again {
		again = 1
	}
	return join(m.Xid, 1, 0, again, 0, m.Accept) + m.Body
}

// meaning tells by the document's words what bytes are read as.
func meaning(s string) (api.Message, api.Errno) {
	if len(s) > longest {
		return api.Message{}, api.ErrLong
	}
	whole := len(s) / 4
	at := func(place int) int {
		return int(s[4*place])<<24 | int(s[4*place+1])<<16 | int(s[4*place+2])<<8 | int(s[4*place+3])
	}
	if whole < 2 || at(1) > 1 {
		return api.Message{}, api.ErrForm
	}
	if at(1) == 1 {
		if whole < 6 || at(2) != 0 || at(3) > 1 || at(4) != 0 {
			return api.Message{}, api.ErrForm
		}
		m := api.Message{Xid: at(0), Answer: true, Again: at(3) == 1, Accept: at(5), Body: s[replySize:]}
		if !valid(m) {
			return api.Message{}, api.ErrForm
		}
		return m, api.OK
	}
	if whole < 4 || at(2) != 2 {
		return api.Message{}, api.ErrForm
	}
	if at(3) != 100003 {
		return api.Message{Xid: at(0), Accept: 1}, api.OK
	}
	if whole < 5 {
		return api.Message{}, api.ErrForm
	}
	if at(4) != 3 {
		return api.Message{Xid: at(0), Accept: 2}, api.OK
	}
	if whole < 14 {
		return api.Message{}, api.ErrForm
	}
	if at(5) > 21 {
		return api.Message{Xid: at(0), Accept: 3}, api.OK
	}
	m := api.Message{Xid: at(0), Proc: at(5), Cred: api.Cred{Client: at(8), Seq: at(9), Uid: at(10), Gid: at(11)}, Body: s[callSize:]}
	if at(6) != 1 || at(7) != 16 || at(12) != 0 || at(13) != 0 || !valid(m) {
		return api.Message{Xid: at(0), Accept: 4}, api.OK
	}
	return m, api.OK
}

// kind is how bytes are read, for counting: 0 to 4 calls by their Accept, 5 to 9 replies by theirs, 10 and 11 errors.
func kind(m api.Message, err api.Errno) int {
	switch {
	case err == api.ErrForm:
		return 10
	case err == api.ErrLong:
		return 11
	case m.Answer:
		return 5 + m.Accept
	}
	return m.Accept
}

// agrees tells whether bytes are read as the document says, which kind of reading that is, and whether what is read has these bytes.
func agrees(t *testing.T, bytes string) int {
	t.Helper()
	want, wantErr := meaning(bytes)
	got, err := rpc.Get(bytes)
	if got != want || err != wantErr {
		t.Fatalf("Get(%x) = %+v, error %d, want %+v, error %d", bytes, got, err, want, wantErr)
	}
	if err == api.OK && (got.Accept == api.AcceptOK || got.Answer) {
		holds(t, "any bytes", pair{got, bytes})
	}
	if err == api.OK && got.Accept != api.AcceptOK && !got.Answer {
		refused(t, "a rejected call", got)
	}
	return kind(got, err)
}

// anyMessage is a message whose fields are some of those that edges have, mostly valid ones.
func anyMessage(chance *rand.Rand, list []edge) api.Message {
	m := api.Message{Answer: chance.Intn(2) == 0}
	m.Again = chance.Intn(3) == 0
	for _, e := range list {
		in, out := e.inCall, e.outCall
		if m.Answer {
			in, out = e.inReply, e.outReply
		}
		if chance.Intn(20) == 0 {
			in = out
		}
		e.put(&m, in[chance.Intn(len(in))])
	}
	body := make([]byte, 4*chance.Intn(8))
	switch chance.Intn(12) {
	case 0:
		body = make([]byte, chance.Intn(9))
	case 1:
		body = make([]byte, longest-replySize+4-4*chance.Intn(16))
	}
	for i := range body {
		body[i] = byte(chance.Intn(256))
	}
	m.Body = string(body)
	return m
}

// P9.1, P9.2, P9.4, D1: any valid message is recovered from its bytes, and any other one is refused.
func TestWrittenIsReadBack(t *testing.T) {
	chance, list := rand.New(rand.NewSource(1)), edges()
	count := map[[2]bool]int{}
	for range 60000 {
		m := anyMessage(chance, list)
		count[[2]bool{m.Answer, valid(m)}]++
		if valid(m) {
			holds(t, "any message", pair{m, bytesOf(m)})
		} else {
			refused(t, "any message", m)
		}
		if t.Failed() {
			t.FailNow()
		}
	}
	for _, answer := range []bool{false, true} {
		for _, is := range []bool{false, true} {
			if count[[2]bool{answer, is}] < 1000 {
				t.Errorf("too few messages were tried: %v", count)
			}
		}
	}
}

// P9.2, P9.4, D1: any bytes are those of the message that is read, or are rejected, or are refused.
func TestReadIsWrittenAgain(t *testing.T) {
	chance := rand.New(rand.NewSource(2))
	count := [12]int{}
	begins := [][]int{{}, {5, 0}, {5, 1}, {5, 0, 2}, {5, 1, 0}, {5, 0, 2, 100003}, {5, 0, 2, 100003, 3}, {5, 0, 2, 100003, 3, 21, 1, 16}, {5, 0, 2, 100003, 3, 0, 1, 16, 4, 1}, {5, 1, 0, 1, 0}, {5, 1, 0, 0, 0}, {5, 1, 0, 0, 0, 0}}
	some := []int{0, 0, 0, 0, 1, 1, 1, 2, 3, 4, 5, 16, 21, 22, 100003, high}
	for range 300000 {
		bytes := join(begins[chance.Intn(len(begins))]...)
		for range chance.Intn(13) {
			bytes += bytes32(some[chance.Intn(len(some))])
		}
		switch chance.Intn(40) {
		case 0:
			bytes += string(make([]byte, chance.Intn(4)))
		case 1:
			bytes += strings.Repeat("\x01", longest-len(bytes)+chance.Intn(9)-4)
		}
		count[agrees(t, bytes)]++
	}
	for i, n := range count {
		if n == 0 {
			t.Errorf("no bytes of the kind %d were tried: %v", i, count)
		}
	}
}

// P9.2, P9.4: bytes of a message in which one is another, or some are missing, or some are too many.
func TestBytesThatAreSpoilt(t *testing.T) {
	chance, list := rand.New(rand.NewSource(3)), edges()
	for range 100000 {
		m := anyMessage(chance, list)
		if !valid(m) {
			continue
		}
		bytes := []byte(bytesOf(m))
		at := chance.Intn(len(bytes) + 1)
		if chance.Intn(2) == 0 {
			at = chance.Intn(min(len(bytes), callSize))
		}
		switch {
		case at < len(bytes) && chance.Intn(2) == 0:
			bytes[at] ^= 1 << chance.Intn(8)
		case chance.Intn(2) == 0:
			bytes = append(bytes[:at:at], bytes[min(len(bytes), at+1+chance.Intn(8)):]...)
		default:
			bytes = append(append(bytes[:at:at], []byte("\x00\x00\x00\x01")[chance.Intn(4):]...), bytes[at:]...)
		}
		agrees(t, string(bytes))
	}
}

// D1: any bytes whatever.
func TestAnyBytes(t *testing.T) {
	chance := rand.New(rand.NewSource(4))
	for range 100000 {
		bytes := make([]byte, chance.Intn(80))
		for i := range bytes {
			bytes[i] = byte(chance.Intn(256)) >> chance.Intn(9)
		}
		agrees(t, string(bytes))
	}
}

// P1: every call ends and none panics, whatever it is given.
func TestNoCallPanics(t *testing.T) {
	numbers := []int{math.MinInt, -1 << 32, -1, 0, 1, 4, 5, 21, 22, high, high + 1, math.MaxInt}
	texts := []string{"", "\x00", "abcd", strings.Repeat("\xff", longest), strings.Repeat("\x00", 1<<20)}
	for _, n := range numbers {
		for _, k := range numbers {
			for _, s := range texts {
				for flags := range 4 {
					m := api.Message{Xid: n, Answer: flags&1 != 0, Again: flags&2 != 0, Proc: k, Cred: api.Cred{Client: k, Seq: n, Uid: k, Gid: n}, Accept: k, Body: s}
					if err := rpc.Check(m); (err == api.OK) != valid(m) {
						t.Errorf("Check with %d, %d, flags %d and %d bytes = %d", n, k, flags, len(s), err)
					}
					rpc.Put(m)
					rpc.Put(rpc.Refuse(m, k))
					rpc.Put(rpc.Answer(m, s))
				}
			}
		}
	}
	for _, s := range texts {
		rpc.Get(s)
		rpc.Get(join(5, 0, 2, 100003, 3) + s)
		rpc.Get(join(5, 1, 0, 0, 0, 0) + s)
	}
}
