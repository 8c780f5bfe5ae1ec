package rpc_test

import (
	"strings"
	"testing"

	"posthouse/api"
)

// goodCall is a valid call's numbers.
func goodCall() []int {
	return []int{5, 0, 2, 100003, 3, 7, 1, 16, 2, 9, 0, 0, 0, 0}
}

// changed is numbers of which some are others.
func changed(numbers []int, others map[int]int) []int {
	list := append([]int(nil), numbers...)
	for place, n := range others {
		list[place] = n
	}
	return list
}

// P9.2: the bytes of a call cut at each place: as long as the head is not whole, a number is missing; then the body's bytes are not a multiple of four.
func TestCallsCut(t *testing.T) {
	p := someCall(api.ProcRead, oddBody)
	for size := range len(p.bytes) {
		bytes := p.bytes[:size]
		switch {
		case size < callSize:
			fails(t, "cut", bytes, api.ErrForm)
		case size%4 != 0:
			rejects(t, "cut", bytes, p.message.Xid, api.AcceptGarble)
		default:
			m := p.message
			m.Body = oddBody[:size-callSize]
			holds(t, "cut", pair{m, bytes})
		}
	}
}

// P9.2: the bytes of a reply cut at each place.
func TestRepliesCut(t *testing.T) {
	for _, again := range []int{0, 1} {
		whole := join(0xf0e0d0c0, 1, 0, again, 0, 0) + oddBody
		for size := range len(whole) {
			bytes := whole[:size]
			if size < replySize || size%4 != 0 {
				fails(t, "cut", bytes, api.ErrForm)
				continue
			}
			holds(t, "cut", pair{api.Message{Xid: 0xf0e0d0c0, Answer: true, Again: again == 1, Body: oddBody[:size-replySize]}, bytes})
		}
	}
	for accept := 1; accept <= 4; accept++ {
		whole := join(7, 1, 0, 0, 0, accept)
		for size := range len(whole) {
			fails(t, "cut", whole[:size], api.ErrForm)
		}
	}
}

// P9.2: what has more than MaxMessage bytes is told first, whatever the bytes are.
func TestTooLong(t *testing.T) {
	for _, begin := range []string{"", join(5), join(5, 2), join(5, 0, 3), join(5, 0, 2, 4), join(5, 0, 2, 100003, 4), join(goodCall()...), join(changed(goodCall(), map[int]int{5: 22})...), join(5, 1, 0, 0, 0, 0), join(5, 1, 0, 0, 0, 4), "\xff"} {
		for _, size := range []int{longest + 1, longest + 2, longest + 4, 2 * longest, 1 << 20} {
			fails(t, "too long", begin+strings.Repeat("\x00", size-len(begin)), api.ErrLong)
		}
	}
	fails(t, "MaxMessage bytes of nothing", strings.Repeat("\xff", longest), api.ErrForm)
}

// P9.2: the second number is 0 or 1.
func TestNeitherZeroNorOne(t *testing.T) {
	for _, n := range []int{2, 3, 255, 256, 257, 1 << 16, 1 << 24, 1<<24 + 1, 1 << 31, high - 1, high} {
		for _, rest := range [][]int{nil, {2}, {2, 100003}, {2, 5}, {2, 100003, 2}, goodCall()[2:], {0, 0, 0, 0}, {0, 0, 0, 4}} {
			fails(t, "neither", join(5, n)+join(rest...), api.ErrForm)
		}
	}
	for _, bytes := range []string{"", "\x00", "\x00\x00\x00", join(5), join(5) + "\x00\x00\x00"} {
		fails(t, "nothing", bytes, api.ErrForm)
	}
}

// P9.2: each of a call's numbers replaced by another one.
func TestOtherNumbersInCalls(t *testing.T) {
	reasons := map[int]int{3: api.AcceptProg, 4: api.AcceptVers, 6: api.AcceptGarble, 7: api.AcceptGarble, 12: api.AcceptGarble, 13: api.AcceptGarble}
	for place, reason := range reasons {
		right := goodCall()[place]
		for _, n := range []int{0, 1, 2, 3, 4, 15, 16, 17, 255, 256, 272, 100002, 100003, 100004, 1<<31 - 1, 1 << 31, high - 1, high} {
			bytes := join(changed(goodCall(), map[int]int{place: n})...)
			for _, body := range []string{"", "body", "odd"} {
				switch {
				case n != right:
					rejects(t, "another number", bytes+body, 5, reason)
				case body == "odd":
					rejects(t, "an odd body", bytes+body, 5, api.AcceptGarble)
				default:
					reads(t, "the right number", bytes+body, api.Message{Xid: 5, Proc: 7, Cred: api.Cred{Client: 2, Seq: 9}, Body: body})
				}
			}
		}
	}
	for _, n := range []int{0, 1, 3, 4, 255, 256, 258, 2 << 24, high} {
		fails(t, "not 2", join(changed(goodCall(), map[int]int{2: n})...), api.ErrForm)
		fails(t, "not 2, and nothing else", join(5, 0, n), api.ErrForm)
	}
}

// P9.2: a call of a procedure that there is not, and one whose Cred is not valid.
func TestOtherFieldsInCalls(t *testing.T) {
	for _, n := range []int{22, 23, 255, 256, 1 << 16, 1 << 31, high} {
		for _, body := range []string{"", "body", "odd"} {
			rejects(t, "no such procedure", join(changed(goodCall(), map[int]int{5: n})...)+body, 5, api.AcceptProc)
		}
	}
	for _, n := range []int{0, 5, 6, 255, 256, 257, 1 << 24, 1 << 31, high} {
		rejects(t, "no such client", join(changed(goodCall(), map[int]int{8: n})...), 5, api.AcceptGarble)
	}
	rejects(t, "Seq 0", join(changed(goodCall(), map[int]int{9: 0})...), 5, api.AcceptGarble)
	for _, place := range []int{9, 10, 11} {
		for _, n := range []int{1, 255, 256, 1 << 31, high} {
			numbers := changed(goodCall(), map[int]int{place: n})
			reads(t, "a Cred", join(numbers...), api.Message{Xid: 5, Proc: 7, Cred: api.Cred{Client: 2, Seq: numbers[9], Uid: numbers[10], Gid: numbers[11]}})
		}
	}
}

// P9.2: of several wrong numbers, the first result in the document's order counts, also where the bytes end early.
func TestFirstOfSeveral(t *testing.T) {
	all := map[int]int{3: 5, 4: 5, 5: 22, 6: 5, 7: 5, 8: 5, 9: 0, 12: 5, 13: 5}
	bytes := join(changed(goodCall(), all)...)
	for size := range len(bytes) + 1 {
		for _, more := range []string{"", "x"} {
			text := bytes[:size] + more
			if len(text) < 16 {
				fails(t, "ahead of the program", text, api.ErrForm)
				continue
			}
			rejects(t, "another program", text, 5, api.AcceptProg)
		}
	}
	delete(all, 3)
	bytes = join(changed(goodCall(), all)...)
	for size := 16; size <= len(bytes); size++ {
		if size < 20 {
			fails(t, "ahead of the version", bytes[:size], api.ErrForm)
			continue
		}
		rejects(t, "another version", bytes[:size], 5, api.AcceptVers)
	}
	delete(all, 4)
	bytes = join(changed(goodCall(), all)...)
	for size := 20; size < len(bytes); size++ {
		fails(t, "ahead of the head's end", bytes[:size], api.ErrForm)
	}
	rejects(t, "no such procedure", bytes, 5, api.AcceptProc)
	rejects(t, "no such procedure, and an odd body", bytes+"odd", 5, api.AcceptProc)
	delete(all, 5)
	rejects(t, "garble", join(changed(goodCall(), all)...), 5, api.AcceptGarble)
	all[2] = 3
	fails(t, "not 2", join(changed(goodCall(), all)...), api.ErrForm)
	all[2], all[3] = 3, 5
	fails(t, "not 2, and another program", join(changed(goodCall(), all)...), api.ErrForm)
}

// P9.2: a rejected call has its Xid, whatever it is.
func TestXidsOfRejectedCalls(t *testing.T) {
	for _, xid := range []int{0, 1, 0x01020304, 1 << 31, high} {
		for place, reason := range map[int]int{3: 1, 4: 2, 5: 3, 6: 4} {
			rejects(t, "rejected", join(changed(goodCall(), map[int]int{0: xid, place: 22})...), xid, reason)
		}
	}
}

// P9.2: a reply's numbers at 0, 1 and others, and its Accept, with bytes behind it and without.
func TestNumbersOfReplies(t *testing.T) {
	some := []int{0, 1, 2, 256, 1 << 24, high}
	for _, third := range some {
		for _, fourth := range some {
			for _, fifth := range some {
				for _, accept := range []int{0, 1, 2, 3, 4, 5, 6, 256, 1 << 24, high} {
					for _, body := range []string{"", "\x00", "odd", "body", oddBody} {
						bytes := join(5, 1, third, fourth, fifth, accept) + body
						fine := third == 0 && fifth == 0 && (accept == 0 && fourth <= 1 && len(body)%4 == 0 || accept <= 4 && fourth == 0 && body == "")
						if !fine {
							fails(t, "no reply", bytes, api.ErrForm)
							continue
						}
						holds(t, "a reply", pair{api.Message{Xid: 5, Answer: true, Again: fourth == 1, Accept: accept, Body: body}, bytes})
					}
				}
			}
		}
	}
}
