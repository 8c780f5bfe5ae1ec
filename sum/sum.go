// Package sum is layer 2: see shared/doc/02-sum.md.
package sum

import (
	"sync"
	"sync/atomic"
)

// poly is what a register is changed by when a 1 was shifted out of it.
const poly = 0x82f63b78

// Summer makes checksums, four bits at a time.
type Summer struct {
	once  sync.Once
	steps [16]uint32
	calls atomic.Int64
}

// New is a summer whose table is not made yet.
func New() *Summer {
	return &Summer{}
}

// Of is a text's checksum.
func (s *Summer) Of(text string) uint32 {
	// The empty text, which every text goes on from, has the checksum 0.
	return s.More(0, text)
}

// More is the checksum of what has a checksum, and of a text behind it.
func (s *Summer) More(sum uint32, text string) uint32 {
	if s == nil {
		return 0
	}
	s.calls.Add(1)
	s.once.Do(s.build)
	register := ^sum
	for i := range len(text) {
		register ^= uint32(text[i])
		register = register>>4 ^ s.steps[register&15]
		register = register>>4 ^ s.steps[register&15]
	}
	return ^register
}

// Calls is how often checksums were asked for.
func (s *Summer) Calls() int {
	if s == nil {
		return 0
	}
	return int(s.calls.Load())
}

// build makes the table: what four single steps make of each four bits.
func (s *Summer) build() {
	for i := range s.steps {
		register := uint32(i)
		for range 4 {
			out := register & 1
			register >>= 1
			if out == 1 {
				register ^= poly
			}
		}
		s.steps[i] = register
	}
}

// Of is a text's checksum, by a summer that is made for it.
func Of(text string) uint32 {
	return New().Of(text)
}
