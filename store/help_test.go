package store_test

import (
	"encoding/binary"
	"math"
	"slices"
	"strings"
	"testing"

	"posthouse/api"
	"posthouse/disk"
	"posthouse/head"
	"posthouse/image"
	"posthouse/index"
	"posthouse/rec"
	"posthouse/ring"
	"posthouse/store"
)

// size is the bytes of a sector and of a block, high the highest epoch, and blank a sector of zero bytes.
const size, high = 128, 1<<32 - 1

var blank = strings.Repeat("\x00", size)

// small is a config of which everything is soon full.
func small() api.Config { return api.Config{Handles: 3, Files: 3, Names: 3, Slots: 3, Ring: 16} }

// configs are some that are valid: the least, small ones, one with odd numbers, the greatest.
func configs() []api.Config {
	return []api.Config{
		{Handles: 1, Files: 1, Names: 0, Slots: 1, Ring: 16}, {Handles: 1, Files: 2, Names: 1, Slots: 1, Ring: 17}, small(),
		{Handles: 7, Files: 5, Names: 11, Slots: 9, Ring: 33}, {Handles: 256, Files: 64, Names: 256, Slots: 256, Ring: 512},
	}
}

// plan is where the parts of a store are on a disk, by the chapter's words: how many sectors an area has, where each of the two begins, where the slots begin, and how many sectors there are in all. The journal begins at 2.
type plan struct {
	area       int
	areas      [2]int
	slots, all int
}

// journalAt is the first sector of the journal.
const journalAt = 2

func planOf(c api.Config) plan {
	halves := 2*(12+36*c.Handles+80*c.Files+72*c.Names+32*c.Slots) + c.Handles + c.Files + c.Names + c.Slots
	area := int(math.Ceil((8 + 4*math.Ceil(math.Ceil(float64(halves)/2)/4)) / size))
	first := journalAt + c.Ring
	return plan{area, [2]int{first, first + area}, first + 2*area, first + 2*area + c.Slots}
}

func hold(epoch, serial int, up string) api.Change {
	return api.Change{Kind: api.ChHold, Epoch: epoch, Serial: serial, Up: up}
}

func free(epoch, serial int) api.Change {
	return api.Change{Kind: api.ChFree, Epoch: epoch, Serial: serial}
}

func file(up string, n int) api.Change {
	return api.Change{Kind: api.ChFile, Up: up, Attr: attrOf(n)}
}

func gone(up string) api.Change { return api.Change{Kind: api.ChGone, Up: up} }
func bare(up string) api.Change { return api.Change{Kind: api.ChBare, Up: up} }

func named(dir, name, child string) api.Change {
	return api.Change{Kind: api.ChName, Up: dir, Name: name, Child: child}
}

func unname(dir, name string) api.Change {
	return api.Change{Kind: api.ChUnname, Up: dir, Name: name}
}

func block(up string, no, slot int) api.Change {
	return api.Change{Kind: api.ChBlock, Up: up, No: no, Slot: slot}
}

func unblock(up string, no int) api.Change {
	return api.Change{Kind: api.ChUnblock, Up: up, No: no}
}

// attrOf is attributes that have a number in each field.
func attrOf(n int) api.Attr {
	return api.Attr{Type: api.TypeReg, Mode: n & 4095, Nlink: n, Uid: n, Gid: n, Size: n, Id: n, Gen: n, Change: n, Time: n}
}

// padded is the bytes of a block that was given these.
func padded(data string) string { return data + blank[len(data):] }

// wide is a text of so many bytes that is told apart from those with other numbers.
func wide(n, bytes int) string {
	return strings.Repeat("\xff", bytes-2) + string([]byte{byte(n >> 8), byte(n)})
}

// fullOf is a cache that just fits, with texts that are as long as they may be.
func fullOf(c api.Config) (all api.Cache) {
	for i := range c.Handles {
		all.Helds = append(all.Helds, api.Held{Epoch: 1 + i/9, Serial: 1 + i%9, Up: wide(i, api.FhSize)})
	}
	for i := range c.Files {
		all.Files = append(all.Files, api.Cached{Up: wide(i, api.FhSize), Attr: attrOf(i)})
	}
	for i := range c.Names {
		all.Names = append(all.Names, api.Known{Dir: wide(i/9%c.Files, api.FhSize), Name: wide(i, api.MaxName), Up: wide(i, api.FhSize)})
	}
	for i := range c.Slots {
		all.Blocks = append(all.Blocks, api.Placed{Up: wide(i/5%c.Files, api.FhSize), No: i, Slot: c.Slots - 1 - i})
	}
	slices.SortFunc(all.Names, func(a, b api.Known) int { return strings.Compare(a.Dir+a.Name, b.Dir+b.Name) })
	slices.SortFunc(all.Blocks, func(a, b api.Placed) int {
		return strings.Compare(a.Up+wide(a.No, 2), b.Up+wide(b.No, 2))
	})
	return all
}

// textOf is a cache as a text, by the chapter's words.
func textOf(t *testing.T, c api.Cache) string {
	t.Helper()
	var records []string
	for l := range slices.Chunk(rec.Changes(c), 16) {
		records = append(records, recordOf(t, l...))
	}
	return listOf(records...)
}

// listOf is the text of records: their number, and each of them behind its length; a record has no bytes that pad it.
func listOf(records ...string) string {
	b := binary.BigEndian.AppendUint32(nil, uint32(len(records)))
	for _, record := range records {
		b = append(binary.BigEndian.AppendUint32(b, uint32(len(record))), record...)
	}
	return string(b)
}

// recordOf is the record of changes.
func recordOf(t *testing.T, l ...api.Change) string {
	t.Helper()
	record, err := rec.Put(l)
	if err != api.OK {
		t.Fatalf("the record of %+v: error %d", l, err)
	}
	return record
}

// changesOf is all changes of a text of records; none of these has more than 16.
func changesOf(t *testing.T, text string) (all []api.Change) {
	t.Helper()
	count, rest := binary.BigEndian.Uint32([]byte(text)), text[4:]
	for range count {
		n := int(binary.BigEndian.Uint32([]byte(rest)))
		l, err := rec.Get(rest[4 : 4+n])
		if err != api.OK {
			t.Fatalf("%q is no record: error %d", rest[4:4+n], err)
		}
		all, rest = append(all, l...), rest[4+n:]
	}
	if rest != "" {
		t.Fatalf("behind %d records there is %q", count, rest)
	}
	return all
}

// equal tells whether two caches are, by their elements.
func equal(a, b api.Cache) bool {
	return slices.Equal(a.Helds, b.Helds) && slices.Equal(a.Files, b.Files) && slices.Equal(a.Names, b.Names) && slices.Equal(a.Blocks, b.Blocks)
}

// newDisk is a disk of so many sectors.
func newDisk(t *testing.T, n int) *disk.Disk {
	t.Helper()
	d, err := disk.New(n)
	if err != api.OK {
		t.Fatalf("a disk of %d sectors: error %d", n, err)
	}
	return d
}

// diskOf is a disk that has these sectors; nothing waits.
func diskOf(t *testing.T, image []string) *disk.Disk {
	t.Helper()
	d := newDisk(t, len(image))
	for i, s := range image {
		if s != blank {
			d.Write(i, s)
		}
	}
	d.Barrier()
	return d
}

// formatted is a disk with a new store.
func formatted(t *testing.T, c api.Config) *disk.Disk {
	t.Helper()
	d := newDisk(t, planOf(c).all)
	formats(t, d, c, api.OK)
	return d
}

// started is a new store, and its disk.
func started(t *testing.T, c api.Config) (*store.Store, *disk.Disk) {
	t.Helper()
	d := formatted(t, c)
	return opens(t, "a new store", d, c), d
}

// formats tells whether Format answers that.
func formats(t *testing.T, d *disk.Disk, c api.Config, want api.Errno) {
	t.Helper()
	if err := store.Format(d, c); err != want {
		t.Fatalf("Format for %+v: error %d, want %d", c, err, want)
	}
}

// opens opens a store that must be there.
func opens(t *testing.T, name string, d *disk.Disk, c api.Config) *store.Store {
	t.Helper()
	s, err := store.Open(d, c)
	if s == nil || err != api.OK {
		t.Fatalf("%s: Open with %+v: store %v, error %d", name, c, s != nil, err)
	}
	return s
}

// refuses tells whether Open answers an error, and no store.
func refuses(t *testing.T, name string, d *disk.Disk, c api.Config, want api.Errno) {
	t.Helper()
	if s, err := store.Open(d, c); s != nil || err != want {
		t.Errorf("%s: Open with %+v: store %v, error %d, want error %d", name, c, s != nil, err, want)
	}
}

// does tells whether changes are done, or answered with an error.
func does(t *testing.T, name string, s *store.Store, want api.Errno, l ...api.Change) {
	t.Helper()
	if err := s.Do(l); err != want {
		t.Fatalf("%s: Do of %+v: error %d, want %d", name, l, err, want)
	}
}

// puts tells whether a block gets data, or Put answers an error.
func puts(t *testing.T, name string, s *store.Store, want api.Errno, up string, no int, data string) {
	t.Helper()
	if err := s.Put(up, no, data); err != want {
		t.Fatalf("%s: Put of %q, %d, %d bytes: error %d, want %d", name, up, no, len(data), err, want)
	}
}

// gets tells whether a block has that data, or Get answers an error.
func gets(t *testing.T, name string, s *store.Store, want api.Errno, up string, no int, data string) {
	t.Helper()
	if got, err := s.Get(up, no); got != data || err != want {
		t.Fatalf("%s: Get of %q, %d: %q, error %d, want %q, error %d", name, up, no, got, err, data, want)
	}
}

// has tells whether a store has that cache.
func has(t *testing.T, name string, s *store.Store, want api.Cache) {
	t.Helper()
	if got := s.Cache(); !equal(got, want) {
		t.Fatalf("%s: the cache is\n%+v, want\n%+v", name, got, want)
	}
}

// headerOf is the header of the store on a disk.
func headerOf(t *testing.T, d *disk.Disk) api.Head {
	t.Helper()
	h, err := head.Find(d, 0)
	if err != api.OK {
		t.Fatalf("the header: error %d", err)
	}
	return h
}

// areaOf is the text in the area that a header names.
func areaOf(t *testing.T, d *disk.Disk, c api.Config, h api.Head) string {
	t.Helper()
	p := planOf(c)
	text, err := image.Read(d, p.areas[h.Area], p.area)
	if err != api.OK {
		t.Fatalf("the area %d: error %d", h.Area, err)
	}
	return text
}

// recordsOf is the records of the journal that a header names, by the bytes on the disk, waiting or not.
func recordsOf(t *testing.T, d *disk.Disk, c api.Config, h api.Head) []string {
	t.Helper()
	_, records, err := ring.Open(d, journalAt, c.Ring, h.Pos, h.Next, h.Since, h.Epoch+1)
	if err != api.OK {
		t.Fatalf("the journal of %+v: error %d", h, err)
	}
	return records
}

// wasMade is a disk with a store that was made by hand: this header, this text in the area that it names, and these records in the journal, in the epoch of the header.
func wasMade(t *testing.T, c api.Config, h api.Head, text string, records ...string) *disk.Disk {
	t.Helper()
	p := planOf(c)
	d := newDisk(t, p.all)
	h.Size = len(text)
	if err := image.Write(d, p.areas[h.Area], p.area, text); err != api.OK {
		t.Fatalf("%d bytes in an area: error %d", len(text), err)
	}
	saves(t, d, h)
	adds(t, d, c, h, records...)
	return d
}

// saves saves a header by hand.
func saves(t *testing.T, d *disk.Disk, h api.Head) {
	t.Helper()
	if _, err := head.Save(d, 0, h); err != api.OK {
		t.Fatalf("saving %+v: error %d", h, err)
	}
}

// adds appends records by hand to the journal that a header names, in the epoch of the header, with a barrier behind them.
func adds(t *testing.T, d *disk.Disk, c api.Config, h api.Head, records ...string) {
	t.Helper()
	r, _, err := ring.Open(d, journalAt, c.Ring, h.Pos, h.Next, h.Since, h.Epoch)
	if err != api.OK {
		t.Fatalf("the journal of %+v: error %d", h, err)
	}
	for _, record := range records {
		if err := r.Append(record); err != api.OK {
			t.Fatalf("a record of %d bytes: error %d", len(record), err)
		}
	}
	d.Barrier()
}

// view is all that can be seen of a store and of its disk.
type view struct {
	cache                   api.Cache
	epoch, count, room      int
	writes, barriers, waits int
	sectors, kept           []string
	data                    []string
}

func viewOf(s *store.Store, d *disk.Disk) (v view) {
	v.cache, v.epoch, v.count, v.room = s.Cache(), s.Epoch(), s.Count(), s.Room()
	v.writes, v.barriers = d.Count()
	v.waits, v.kept = d.Waiting(), d.Image()
	for i := range d.Size() {
		text, _ := d.Read(i)
		v.sectors = append(v.sectors, text)
	}
	for _, b := range v.cache.Blocks {
		text, _ := s.Get(b.Up, b.No)
		v.data = append(v.data, text)
	}
	return v
}

func (v view) equal(w view) bool {
	return equal(v.cache, w.cache) && v.epoch == w.epoch && v.count == w.count && v.room == w.room &&
		v.writes == w.writes && v.barriers == w.barriers && v.waits == w.waits &&
		slices.Equal(v.sectors, w.sectors) && slices.Equal(v.kept, w.kept) && slices.Equal(v.data, w.data)
}

// keeps tells whether a call leaves everything as it was.
func keeps(t *testing.T, name string, s *store.Store, d *disk.Disk, call func()) {
	t.Helper()
	was := viewOf(s, d)
	call()
	if now := viewOf(s, d); !now.equal(was) {
		t.Fatalf("%s: there is\n%+v, was\n%+v", name, now, was)
	}
}

// after is a cache that changes make of another one.
func after(t *testing.T, c api.Cache, l ...api.Change) api.Cache {
	t.Helper()
	now, is := index.All(c, l)
	if !is {
		t.Fatalf("%+v is refused of %+v", l, c)
	}
	return now
}

// pieces is how many positions of the journal a record of changes takes.
func pieces(t *testing.T, l ...api.Change) int {
	t.Helper()
	return int(math.Ceil(float64(len(recordOf(t, l...))) / 100))
}
