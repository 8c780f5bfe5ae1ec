package disk_test

import (
	"slices"
	"strings"
	"testing"

	"posthouse/api"
	"posthouse/disk"
)

// size is how many bytes a sector has.
const size = 128

// blank is a sector of zero bytes.
var blank = strings.Repeat("\x00", size)

// padded is a text as it stands in a sector.
func padded(s string) string {
	return s + blank[len(s):]
}

// wait is a write that waits.
type wait struct {
	at   int
	text string
}

// model is a disk by the document's words: lists of what is persisted and of what is pending.
type model struct {
	kept             []string
	waiting          []wait
	fuse             int
	dead             bool
	writes, barriers int
}

// newModel is a model of a disk of n sectors; a fuse below 0 is none.
func newModel(n int) *model {
	return &model{kept: slices.Repeat([]string{blank}, n), fuse: -1}
}

func (m *model) read(i int) (string, api.Errno) {
	if m.dead {
		return "", api.ErrDown
	}
	if i < 0 || i >= len(m.kept) {
		return "", api.ErrRange
	}
	for _, w := range slices.Backward(m.waiting) {
		if w.at == i {
			return w.text, api.OK
		}
	}
	return m.kept[i], api.OK
}

// burns tells whether the fuse lets one more through, and uses it up.
func (m *model) burns() bool {
	if m.fuse == 0 {
		m.dead = true
	}
	if m.fuse > 0 {
		m.fuse--
	}
	return !m.dead
}

func (m *model) write(i int, s string) api.Errno {
	switch {
	case m.dead:
		return api.ErrDown
	case i < 0 || i >= len(m.kept):
		return api.ErrRange
	case len(s) > size:
		return api.ErrLong
	case !m.burns():
		return api.ErrDown
	}
	m.waiting = append(m.waiting, wait{i, padded(s)})
	m.writes++
	return api.OK
}

func (m *model) barrier() api.Errno {
	if m.dead || !m.burns() {
		return api.ErrDown
	}
	for _, w := range m.waiting {
		m.kept[w.at] = w.text
	}
	m.waiting = nil
	m.barriers++
	return api.OK
}

func (m *model) arm(n int) api.Errno {
	if m.dead {
		return api.ErrDown
	}
	m.fuse = n
	return api.OK
}

func (m *model) crash(keep []int) api.Errno {
	for position, w := range m.waiting {
		if slices.Contains(keep, position) {
			m.kept[w.at] = w.text
		}
	}
	m.waiting, m.fuse, m.dead = nil, -1, false
	return api.OK
}

// both is a disk and its model, to which the same things happen.
type both struct {
	t     *testing.T
	disk  *disk.Disk
	model *model
}

// begin is a new disk of n sectors and its model.
func begin(t *testing.T, n int) both {
	t.Helper()
	d, err := disk.New(n)
	if d == nil || err != api.OK {
		t.Fatalf("New(%d) = %v, error %d", n, d, err)
	}
	b := both{t, d, newModel(n)}
	b.agree("New")
	return b
}

func (b both) write(i int, s string) {
	b.t.Helper()
	b.same("Write", b.disk.Write(i, s), b.model.write(i, s))
}

func (b both) barrier() {
	b.t.Helper()
	b.same("Barrier", b.disk.Barrier(), b.model.barrier())
}

func (b both) arm(n int) {
	b.t.Helper()
	b.same("Arm", b.disk.Arm(n), b.model.arm(n))
}

func (b both) crash(keep ...int) {
	b.t.Helper()
	b.same("Crash", b.disk.Crash(keep), b.model.crash(keep))
}

// same tells whether a call answered the right error, and left behind what it should.
func (b both) same(name string, got, want api.Errno) {
	b.t.Helper()
	if got != want {
		b.t.Errorf("%s: error %d, want %d", name, got, want)
	}
	b.agree(name)
}

// agree tells whether everything that can be asked of a disk is what the model has.
func (b both) agree(name string) {
	b.t.Helper()
	if got := b.disk.Size(); got != len(b.model.kept) {
		b.t.Errorf("%s: Size %d, want %d", name, got, len(b.model.kept))
	}
	if got := b.disk.Dead(); got != b.model.dead {
		b.t.Errorf("%s: Dead %v, want %v", name, got, b.model.dead)
	}
	if got := b.disk.Waiting(); got != len(b.model.waiting) {
		b.t.Errorf("%s: Waiting %d, want %d", name, got, len(b.model.waiting))
	}
	writes, barriers := b.disk.Count()
	if writes != b.model.writes || barriers != b.model.barriers {
		b.t.Errorf("%s: Count %d, %d, want %d, %d", name, writes, barriers, b.model.writes, b.model.barriers)
	}
	if got := b.disk.Image(); !slices.Equal(got, b.model.kept) {
		b.t.Errorf("%s: Image %q, want %q", name, got, b.model.kept)
	}
	for i := -1; i <= len(b.model.kept); i++ {
		want, wantErr := b.model.read(i)
		if got, err := b.disk.Read(i); got != want || err != wantErr {
			b.t.Errorf("%s: Read(%d) = %q, error %d, want %q, error %d", name, i, got, err, want, wantErr)
		}
	}
	if b.t.Failed() {
		b.t.FailNow()
	}
}
