package store_test

import (
	"bytes"
	"encoding/binary"
	"fmt"
	"hash/crc32"
	"maps"
	"math/rand"
	"slices"
	"testing"

	"cardex/api"
	"cardex/batch"
	"cardex/disk"
	"cardex/journal"
	"cardex/store"
)

func put(key string, value ...byte) api.Change {
	return api.Change{Key: key, Value: value}
}

func gone(key string) api.Change {
	return api.Change{Key: key, Gone: true}
}

func row(key string, value ...byte) api.Row {
	return api.Row{Key: key, Value: value}
}

func sameRows(a, b []api.Row) bool {
	return slices.EqualFunc(a, b, func(x, y api.Row) bool { return x.Key == y.Key && bytes.Equal(x.Value, y.Value) })
}

func is(t *testing.T, what string, got, want api.Errno) {
	t.Helper()
	if got != want {
		t.Errorf("%s: %v, want %v", what, got, want)
	}
}

func empty(t *testing.T, blocks int) *disk.Disk {
	t.Helper()
	d, e := disk.New(blocks)
	if e != api.OK {
		t.Fatalf("New(%d): %v", blocks, e)
	}
	return d
}

func made(t *testing.T, blocks int) (*disk.Disk, *store.Store) {
	t.Helper()
	d := empty(t, blocks)
	s, e := store.Make(d)
	if e != api.OK || s == nil {
		t.Fatalf("Make: %v", e)
	}
	return d, s
}

func opened(t *testing.T, d *disk.Disk) *store.Store {
	t.Helper()
	s, e := store.Open(d)
	if e != api.OK || s == nil {
		t.Fatalf("Open: %v", e)
	}
	return s
}

func refuses(t *testing.T, what string, d *disk.Disk, want api.Errno) {
	t.Helper()
	if s, e := store.Open(d); s != nil || e != want {
		t.Errorf("%s: Open = %v, %v, want %v", what, s, e, want)
	}
}

// dark cuts the power of a disk.
func dark(t *testing.T, d *disk.Disk) {
	t.Helper()
	is(t, "Arm", d.Arm(1), api.OK)
	is(t, "Flush", d.Flush(), api.ErrPower)
}

// holds asks a store for its rows, and for the value of each key that there may be.
func holds(t *testing.T, what string, s *store.Store, want ...api.Row) {
	t.Helper()
	if l := s.Rows(); !sameRows(l, want) {
		t.Fatalf("%s: Rows = %x, want %x", what, l, want)
	}
	m := map[string][]byte{}
	for _, r := range want {
		m[r.Key] = r.Value
	}
	for _, key := range append(slices.Collect(maps.Keys(m)), keys...) {
		b, there := m[key]
		if v, ok := s.Value(key); ok != there || !bytes.Equal(v, b) {
			t.Fatalf("%s: Value(%q) = %x, %t, want %x, %t", what, key, v, ok, b, there)
		}
	}
}

// image is all that is sure on a disk, and how many steps were done.
func image(t *testing.T, d *disk.Disk) ([]api.Block, int) {
	t.Helper()
	l := make([]api.Block, d.Blocks())
	for n := range l {
		b, e := d.Sure(n)
		if e != api.OK {
			t.Fatalf("Sure(%d): %v", n, e)
		}
		l[n] = b
	}
	return l, d.Steps()
}

// same asks whether just the same steps were done on two disks.
func same(t *testing.T, what string, d, want *disk.Disk) {
	t.Helper()
	a, steps := image(t, d)
	b, wanted := image(t, want)
	if steps != wanted || d.Loose() != want.Loose() || d.Dark() != want.Dark() {
		t.Fatalf("%s: Steps, Loose, Dark = %d, %d, %t, want %d, %d, %t", what, steps, d.Loose(), d.Dark(), wanted, want.Loose(), want.Dark())
	}
	for n := range a {
		if a[n] != b[n] {
			t.Fatalf("%s: block %d = %x, want %x", what, n, a[n], b[n])
		}
	}
}

// keys are those of changes made at random, and such as no table has.
var keys = []string{"a", "aa", "b", "\x00", "\xff", "0123456789abcdef", "", "none", "0123456789abcdefg"}

func someChanges(r *rand.Rand, size int) []api.Change {
	var l []api.Change
	for _, key := range keys[:6] {
		switch r.Intn(6) {
		case 0, 1:
			l = append(l, put(key, bytes.Repeat([]byte{byte(r.Intn(256))}, r.Intn(size))...))
		case 2:
			l = append(l, gone(key))
		}
	}
	slices.SortFunc(l, func(a, b api.Change) int { return bytes.Compare([]byte(a.Key), []byte(b.Key)) })
	return l
}

func somePicks(r *rand.Rand) []int {
	l := make([]int, r.Intn(12))
	for i := range l {
		l[i] = []int{0, r.Intn(api.Size), api.Size, -1, api.Size + 1}[r.Intn(5)]
	}
	return l
}

// after is the table that changes make of one, told by a map.
func after(t []api.Row, l []api.Change) []api.Row {
	m := map[string][]byte{}
	for _, r := range t {
		m[r.Key] = r.Value
	}
	for _, c := range l {
		delete(m, c.Key)
		if !c.Gone {
			m[c.Key] = c.Value
		}
	}
	var rows []api.Row
	for _, key := range slices.Sorted(maps.Keys(m)) {
		rows = append(rows, row(key, m[key]...))
	}
	return rows
}

// bytesOf are those of changes, laid down here: not by what the store lays them with.
func bytesOf(l []api.Change) []byte {
	b := binary.LittleEndian.AppendUint32(nil, uint32(len(l)))
	for _, c := range l {
		b = binary.LittleEndian.AppendUint32(b, uint32(len(c.Key)))
		b = append(b, c.Key...)
		if c.Gone {
			b = append(b, 1)
			continue
		}
		b = append(b, 0)
		b = binary.LittleEndian.AppendUint32(b, uint32(len(c.Value)))
		b = append(b, c.Value...)
	}
	return b
}

func wholeOf(t []api.Row) []byte {
	var l []api.Change
	for _, r := range t {
		l = append(l, put(r.Key, r.Value...))
	}
	return bytesOf(l)
}

// twin is a journal on a disk of its own, on which just that is done which the document says of a store.
type twin struct {
	d    *disk.Disk
	j    *journal.Journal
	rows []api.Row
	anew int // how often all was replaced
}

func twinOf(t *testing.T, blocks int) *twin {
	t.Helper()
	d := empty(t, blocks)
	j, e := journal.Make(d)
	is(t, "journal.Make", e, api.OK)
	return &twin{d: d, j: j}
}

func (w *twin) commit(l []api.Change) api.Errno {
	if len(l) == 0 {
		return api.OK
	}
	rows := after(w.rows, l)
	e := w.j.Append(bytesOf(l))
	if e == api.ErrFull || e == api.ErrLimit {
		if e = w.j.Replace(wholeOf(rows)); e == api.OK {
			w.anew++
		}
	}
	if e == api.ErrLimit {
		e = api.ErrFull
	}
	if e == api.OK {
		w.rows = rows
	}
	return e
}

func (w *twin) check(t *testing.T, what string, d *disk.Disk, s *store.Store) {
	t.Helper()
	same(t, what, d, w.d)
	holds(t, what, s, w.rows...)
	if s.Room() != w.j.Room() {
		t.Fatalf("%s: Room = %d, want %d", what, s.Room(), w.j.Room())
	}
}

func TestExamples(t *testing.T) {
	d, s := made(t, 66)
	is(t, "Commit(none)", s.Commit(nil), api.OK)
	is(t, "Commit(a: 7)", s.Commit([]api.Change{put("a", 7)}), api.OK)
	if v, ok := s.Value("a"); !bytes.Equal(v, []byte{7}) || !ok {
		t.Errorf("Value(a) = %x, %t", v, ok)
	}
	is(t, "Commit(b: 5000 bytes)", s.Commit([]api.Change{put("b", make([]byte, 5000)...)}), api.ErrFull)
	holds(t, "Rows", s, row("a", 7))
	if s.Room() != 31 {
		t.Errorf("Room = %d", s.Room())
	}
	holds(t, "Open, Rows", opened(t, d), row("a", 7))
}

// P9.1

func TestMake(t *testing.T) {
	for _, blocks := range []int{64, 65, 66, 67, 4096} {
		d, s := made(t, blocks)
		w := twinOf(t, blocks)
		w.check(t, "made", d, s)
		if s.Room() != (blocks-2)/2 {
			t.Errorf("%d blocks: Room = %d", blocks, s.Room())
		}
		w.check(t, "opened", d, opened(t, d))
	}
}

func TestMakeOverAnotherOne(t *testing.T) {
	d, s := made(t, 66)
	for range 3 {
		is(t, "Commit", s.Commit([]api.Change{put("a", make([]byte, 2000)...)}), api.OK)
	}
	s, e := store.Make(d)
	is(t, "Make", e, api.OK)
	holds(t, "made anew", s)
	holds(t, "opened", opened(t, d))
	is(t, "Commit", s.Commit([]api.Change{put("b", 8)}), api.OK)
	holds(t, "opened", opened(t, d), row("b", 8))
}

func TestMakeAndOpenWithoutADisk(t *testing.T) {
	for _, d := range []*disk.Disk{nil, {}} {
		if s, e := store.Make(d); s != nil || e != api.ErrNil {
			t.Errorf("Make = %v, %v", s, e)
		}
		refuses(t, "no disk", d, api.ErrNil)
	}
	for at := 1; at <= 5; at++ {
		d := empty(t, 64)
		is(t, "Arm", d.Arm(at), api.OK)
		for range 2 {
			if s, e := store.Make(d); s != nil || e != api.ErrPower {
				t.Errorf("cut at %d: Make = %v, %v", at, s, e)
			}
		}
		refuses(t, "dark", d, api.ErrPower)
	}
	d, _ := made(t, 64)
	dark(t, d)
	refuses(t, "dark, and made", d, api.ErrPower)
}

func TestOpenOfNoJournal(t *testing.T) {
	refuses(t, "0s", empty(t, 64), api.ErrForm)
	d, s := made(t, 64)
	is(t, "Commit", s.Commit([]api.Change{put("a", 1)}), api.OK)
	is(t, "Rot", d.Rot(2, 3, 1), api.OK)
	refuses(t, "a row that is longer", d, api.ErrForm)
	is(t, "Rot", d.Rot(2, 3, 1), api.OK)
	is(t, "Rot", d.Rot(0, 0, 1), api.OK)
	is(t, "Rot", d.Rot(1, 0, 1), api.OK)
	refuses(t, "no head", d, api.ErrForm)
}

// journalled is a disk with a journal of just these batches, which are handed to it as they are.
func journalled(t *testing.T, batches ...[]byte) *disk.Disk {
	t.Helper()
	d := empty(t, 130)
	j, e := journal.Make(d)
	is(t, "journal.Make", e, api.OK)
	for _, b := range batches {
		is(t, "journal.Append", j.Append(b), api.OK)
	}
	return d
}

func TestOpenOfBatches(t *testing.T) {
	none := bytesOf(nil)
	a, b := bytesOf([]api.Change{put("a", 1), put("b")}), bytesOf([]api.Change{gone("a"), put("c", 3, 3)})
	for _, c := range []struct {
		what    string
		batches [][]byte
		want    []api.Row
	}{
		{"no batch", nil, nil},
		{"batches of none", [][]byte{none, none}, nil},
		{"one", [][]byte{a}, []api.Row{row("a", 1), row("b")}},
		{"two", [][]byte{a, b}, []api.Row{row("b"), row("c", 3, 3)}},
		{"the other way round", [][]byte{b, a}, []api.Row{row("a", 1), row("b"), row("c", 3, 3)}},
		{"none between", [][]byte{none, a, none, b, none}, []api.Row{row("b"), row("c", 3, 3)}},
		{"gone that is not there", [][]byte{bytesOf([]api.Change{gone("x")}), b}, []api.Row{row("c", 3, 3)}},
		{"all gone", [][]byte{a, bytesOf([]api.Change{gone("a"), gone("b")})}, nil},
		{"the last one counts", [][]byte{a, bytesOf([]api.Change{put("a", 2)}), bytesOf([]api.Change{put("a", 4, 4)})}, []api.Row{row("a", 4, 4), row("b")}},
	} {
		d := journalled(t, c.batches...)
		steps := d.Steps()
		s := opened(t, d)
		holds(t, c.what, s, c.want...)
		j, _ := journal.Open(d)
		if s.Room() != j.Room() || d.Steps() != steps {
			t.Errorf("%s: Room = %d, want %d; %d steps", c.what, s.Room(), j.Room(), d.Steps()-steps)
		}
	}
}

// noBatch are bytes that batch.Get refuses, each kind of error among them.
var noBatch = map[string][]byte{
	"no bytes":          {},
	"three bytes":       {0, 0, 0},
	"fewer than said":   {2, 0, 0, 0, 1, 0, 0, 0, 'a', 1},
	"a value too short": {1, 0, 0, 0, 1, 0, 0, 0, 'a', 0, 2, 0, 0, 0, 7},
	"a byte left":       {0, 0, 0, 0, 0},
	"another byte":      {1, 0, 0, 0, 1, 0, 0, 0, 'a', 2},
	"no key":            {1, 0, 0, 0, 0, 0, 0, 0, 1},
	"a key too long":    append([]byte{1, 0, 0, 0, 17, 0, 0, 0}, make([]byte, 18)...),
	"a value too long":  {1, 0, 0, 0, 1, 0, 0, 0, 'a', 0, 1, 0, 16, 0},
	"falling":           bytesOf([]api.Change{put("b"), put("a")}),
	"alike":             bytesOf([]api.Change{put("a"), gone("a")}),
}

func TestOpenOfWhatIsNoBatch(t *testing.T) {
	told := map[api.Errno]bool{}
	a := bytesOf([]api.Change{put("a", 1)})
	all := bytesOf([]api.Change{gone("a")})
	for what, b := range noBatch {
		_, e := batch.Get(b)
		told[e] = true
		for _, batches := range [][][]byte{{b}, {b, a}, {a, b}, {a, b, a, all}, {b, b}} {
			d := journalled(t, batches...)
			ahead := d.Copy()
			refuses(t, what, d, api.ErrForm)
			same(t, what, d, ahead)
		}
	}
	if !told[api.ErrShort] || !told[api.ErrForm] || !told[api.ErrLimit] || told[api.OK] {
		t.Errorf("batch.Get tells %v", told)
	}
}

// P9.2

// mayNotBe are changes that may not be, of each kind.
var mayNotBe = map[string][]api.Change{
	"no key":            {put("", 1)},
	"a key too long":    {gone("0123456789abcdefg")},
	"a value too long":  {put("a", make([]byte, api.MaxBatch+1)...)},
	"gone with a value": {{Key: "a", Value: []byte{0}, Gone: true}},
	"falling":           {put("b"), put("a")},
	"alike":             {put("a"), put("a")},
}

func TestCommitTellsTheFirstFault(t *testing.T) {
	large := []api.Change{put("a", make([]byte, 5000)...)}
	d, s := made(t, 66)
	is(t, "Commit", s.Commit([]api.Change{put("a", 7)}), api.OK)
	for _, cut := range []bool{false, true} {
		fault := api.ErrFull
		if cut {
			dark(t, d)
			fault = api.ErrPower
		}
		ahead := d.Copy()
		for what, l := range mayNotBe {
			is(t, what, s.Commit(l), api.ErrArg)
		}
		is(t, "nil", s.Commit(nil), api.OK)
		is(t, "no elements", s.Commit([]api.Change{}), api.OK)
		is(t, "too large", s.Commit(large), fault)
		same(t, "no step", d, ahead)
		holds(t, "nothing changed", s, row("a", 7))
		if s.Room() != 31 {
			t.Errorf("Room = %d", s.Room())
		}
		for _, none := range []*store.Store{nil, {}} {
			is(t, "no store", none.Commit(nil), api.ErrNil)
			is(t, "no store", none.Commit(large), api.ErrNil)
			is(t, "no store", none.Commit(mayNotBe["alike"]), api.ErrNil)
		}
	}
}

func TestCommitIsLaidAsTheJournalDoes(t *testing.T) {
	r := rand.New(rand.NewSource(91))
	anew, full := 0, 0
	for n := range 40 {
		blocks := 64 + r.Intn(6)
		d, s := made(t, blocks)
		w := twinOf(t, blocks)
		for i := range 80 {
			// Now and then so large that the whole table has no room.
			l := someChanges(r, []int{1, 40, 900, 2600}[n%4])
			what := fmt.Sprintf("%d blocks, %d", blocks, i)
			want := w.commit(l)
			is(t, what, s.Commit(l), want)
			if want == api.ErrFull {
				full++
			}
			w.check(t, what, d, s)
			w.check(t, what+", opened", d, opened(t, d))
			if r.Intn(8) == 0 {
				s = opened(t, d)
			}
		}
		anew += w.anew
	}
	if anew < 100 || full < 10 {
		t.Errorf("laid anew %d times, no room %d times", anew, full)
	}
}

func TestCommitOfWhatChangesNothing(t *testing.T) {
	d, s := made(t, 66)
	w := twinOf(t, 66)
	for _, l := range [][]api.Change{{gone("a")}, {put("b", 1)}, {put("b", 1)}, {gone("a")}} {
		is(t, "the journal", w.commit(l), api.OK)
		is(t, "Commit", s.Commit(l), api.OK)
		w.check(t, "a batch more", d, s)
	}
	if s.Room() != 28 {
		t.Errorf("Room = %d", s.Room())
	}
}

func TestCommitToTheLastByte(t *testing.T) {
	// Of a bank of 32 blocks, a row's length, a count, a key, a byte, a value's length are not the value's.
	most := 32*api.Size - 4 - 4 - 5 - 1 - 4
	for _, ahead := range []int{0, 1} {
		d, s := made(t, 66)
		for range ahead {
			is(t, "ahead", s.Commit([]api.Change{put("a", 7)}), api.OK)
		}
		is(t, "one byte too many", s.Commit([]api.Change{put("a", make([]byte, most+1)...)}), api.ErrFull)
		is(t, "just the room", s.Commit([]api.Change{put("a", make([]byte, most)...)}), api.OK)
		if s.Room() != 0 {
			t.Errorf("Room = %d", s.Room())
		}
		is(t, "another row", s.Commit([]api.Change{put("b")}), api.ErrFull)
		holds(t, "full", s, row("a", make([]byte, most)...))
		is(t, "gone", s.Commit([]api.Change{gone("a")}), api.OK)
		if s.Room() != 31 {
			t.Errorf("Room = %d", s.Room())
		}
		holds(t, "opened", opened(t, d))
	}
}

func TestCommitWhereAllThatIsLeftIsNoRow(t *testing.T) {
	d, s := made(t, 64)
	w := twinOf(t, 64)
	for range 31 {
		l := []api.Change{put("a", 1)}
		is(t, "the journal", w.commit(l), api.OK)
		is(t, "Commit", s.Commit(l), api.OK)
	}
	is(t, "the journal", w.commit([]api.Change{gone("a")}), api.OK)
	is(t, "Commit", s.Commit([]api.Change{gone("a")}), api.OK)
	w.check(t, "no rows", d, s)
	w.check(t, "opened", d, opened(t, d))
	if s.Room() != 30 || w.anew != 1 {
		t.Errorf("Room = %d, laid anew %d times", s.Room(), w.anew)
	}
}

// manyGone are more changes than a batch has room for, of keys none of which is below b.
func manyGone() []api.Change {
	var l []api.Change
	for i := range api.MaxBatch/21 + 1 {
		l = append(l, gone(fmt.Sprintf("key %012d", i)))
	}
	return l
}

func TestCommitAboveMaxBatch(t *testing.T) {
	small, large := manyGone(), []api.Change{put("b", make([]byte, api.MaxBatch)...)}
	if len(bytesOf(small)) <= api.MaxBatch || len(bytesOf(small[1:])) > api.MaxBatch {
		t.Fatalf("%d bytes", len(bytesOf(small)))
	}
	for _, blocks := range []int{66, api.MaxBlocks} {
		d, s := made(t, blocks)
		w := twinOf(t, blocks)
		for _, c := range []struct {
			what string
			l    []api.Change
			want api.Errno
		}{
			{"a row", []api.Change{put("a", 7)}, api.OK},
			{"a row that will be gone", []api.Change{put("key 000000000000", 8)}, api.OK},
			{"all is above MaxBatch too", large, api.ErrFull},
			{"all has room", small, api.OK},
			{"a batch of MaxBatch, and all above it", []api.Change{put("b", make([]byte, api.MaxBatch-14)...)}, api.ErrFull},
			{"a batch of less, for which there is no room", small[1:], api.OK},
			{"a row more", []api.Change{put("c", 9)}, api.OK},
		} {
			is(t, c.what+", the journal", w.commit(c.l), c.want)
			is(t, c.what, s.Commit(c.l), c.want)
			w.check(t, c.what, d, s)
			w.check(t, c.what+", opened", d, opened(t, d))
		}
		if w.anew != 2 {
			t.Errorf("laid anew %d times", w.anew)
		}
		holds(t, "behind all", s, row("a", 7), row("c", 9))
		dark(t, d)
		ahead := d.Copy()
		is(t, "dark, above MaxBatch", s.Commit(large), api.ErrFull)
		is(t, "dark, and all has room", s.Commit(small), api.ErrPower)
		is(t, "dark, a batch of less", s.Commit(small[1:]), api.ErrPower)
		is(t, "dark, a batch that has room", s.Commit([]api.Change{gone("a")}), api.ErrPower)
		same(t, "dark", d, ahead)
		holds(t, "dark", s, row("a", 7), row("c", 9))
	}
}

func TestCommitWhereNoHeadFollows(t *testing.T) {
	d, s := made(t, 66)
	is(t, "Commit", s.Commit([]api.Change{put("a", 7)}), api.OK)
	var b api.Block
	binary.LittleEndian.PutUint64(b[:8], 1<<62)
	binary.LittleEndian.PutUint32(b[116:120], crc32.Checksum(b[:116], crc32.MakeTable(crc32.Castagnoli)))
	binary.LittleEndian.PutUint64(b[120:], ^uint64(1<<62))
	is(t, "Write", d.Write(0, b), api.OK)
	is(t, "Flush", d.Flush(), api.OK)
	ahead := d.Copy()
	is(t, "journal's error", s.Commit([]api.Change{put("b", 8)}), api.ErrForm)
	same(t, "refused", d, ahead)
	holds(t, "refused", s, row("a", 7))
}

func TestWhatIsHandedInStays(t *testing.T) {
	for _, filled := range []bool{false, true} {
		d, s := made(t, 64)
		if filled {
			is(t, "Commit", s.Commit([]api.Change{put("z", make([]byte, 3000)...)}), api.OK)
		}
		room := bytes.Repeat([]byte{7}, 1000)
		all := []api.Change{put("a", room[:400]...), gone("b"), put("z"), put("behind")}
		all[0].Value = room[:400]
		l := all[:3]
		is(t, "Commit", s.Commit(l), api.OK)
		for _, c := range room {
			if c != 7 {
				t.Fatal("a value was changed")
			}
		}
		if all[0].Key != "a" || len(all[0].Value) != 400 || !all[1].Gone || all[2].Key != "z" || all[3].Key != "behind" {
			t.Fatalf("changes were changed: %v", all)
		}
		clear(room)
		clear(all)
		want := []api.Row{row("a", bytes.Repeat([]byte{7}, 400)...), row("z")}
		holds(t, "kept", s, want...)
		holds(t, "opened", opened(t, d), want...)
	}
}

// P9.3

func TestNoStore(t *testing.T) {
	for _, s := range []*store.Store{nil, {}} {
		holds(t, "no store", s)
		if s.Room() != 0 {
			t.Errorf("Room = %d", s.Room())
		}
	}
}

func TestValueOfNothing(t *testing.T) {
	_, s := made(t, 64)
	is(t, "Commit", s.Commit([]api.Change{put("a"), {Key: "b", Value: []byte{}}, put("c", 1)}), api.OK)
	for _, key := range []string{"a", "b"} {
		if v, ok := s.Value(key); len(v) != 0 || !ok {
			t.Errorf("Value(%s) = %x, %t", key, v, ok)
		}
	}
	for _, key := range []string{"", "A", "aa", "d", "\x00", "0123456789abcdefg"} {
		if v, ok := s.Value(key); len(v) != 0 || ok {
			t.Errorf("Value(%q) = %x, %t", key, v, ok)
		}
	}
}

// spoil writes over all that a list has room for.
func spoil(b []byte) {
	b = b[:cap(b)]
	for i := range b {
		b[i] ^= 85
	}
}

func TestWhatIsAnsweredIsNewMemory(t *testing.T) {
	d, s := made(t, 64)
	want := []api.Row{row("a", 1, 2, 3), row("b", 4), row("c", 5, 6)}
	is(t, "Commit", s.Commit([]api.Change{put("a", 1, 2, 3), put("b", 4), put("c", 5, 6)}), api.OK)
	for what, s := range map[string]*store.Store{"committed": s, "opened": opened(t, d)} {
		l := s.Rows()
		v, _ := s.Value("a")
		spoil(v)
		for i := range l {
			if !sameRows(l[i:], want[i:]) {
				t.Errorf("%s: Rows share memory: %v", what, l)
			}
			spoil(l[i].Value)
		}
		l = append(l, row("z"))
		clear(l)
		holds(t, what, s, want...)
		is(t, "Commit", s.Commit([]api.Change{gone("d")}), api.OK)
		holds(t, what, s, want...)
	}
}

func TestTheTableIsKeptInTheDark(t *testing.T) {
	d, s := made(t, 66)
	is(t, "Commit", s.Commit([]api.Change{put("a", 7)}), api.OK)
	dark(t, d)
	holds(t, "dark", s, row("a", 7))
	if s.Room() != 31 {
		t.Errorf("dark: Room = %d", s.Room())
	}
	is(t, "Crash", d.Crash(nil), api.OK)
	for n := range d.Blocks() {
		is(t, "Write", d.Write(n, api.Block{}), api.OK)
	}
	holds(t, "nothing on the disk", s, row("a", 7))
	if s.Room() != 31 {
		t.Errorf("nothing on the disk: Room = %d", s.Room())
	}
}

func TestTheTableIsTheStoresOwn(t *testing.T) {
	d, s := made(t, 66)
	is(t, "Commit", s.Commit([]api.Change{put("a", 7)}), api.OK)
	other := opened(t, d)
	is(t, "Commit", other.Commit([]api.Change{put("b", 8)}), api.OK)
	holds(t, "the other one", other, row("a", 7), row("b", 8))
	holds(t, "its own", s, row("a", 7))
	if s.Room() != 31 || other.Room() != 30 {
		t.Errorf("Room = %d, %d", s.Room(), other.Room())
	}
	// It goes on from its own table, and what it lays last counts.
	is(t, "Commit", s.Commit([]api.Change{put("c", 9)}), api.OK)
	holds(t, "its own", s, row("a", 7), row("c", 9))
	holds(t, "opened", opened(t, d), row("a", 7), row("c", 9))
}

// filled is a store in whose bank so many blocks are left.
func filled(t *testing.T, left int) (*disk.Disk, *store.Store, []api.Row) {
	t.Helper()
	d, s := made(t, 66)
	is(t, "Commit", s.Commit([]api.Change{put("a", 7), put("z", make([]byte, 200)...)}), api.OK)
	for n := s.Room(); n > left; n-- {
		is(t, "Commit", s.Commit([]api.Change{put("a", byte(n))}), api.OK)
	}
	if s.Room() != left {
		t.Fatalf("Room = %d, want %d", s.Room(), left)
	}
	return d, s, s.Rows()
}

func TestAStoreThatMetErrPowerGoesOn(t *testing.T) {
	r := rand.New(rand.NewSource(92))
	l := []api.Change{gone("a"), put("b", bytes.Repeat([]byte{3}, 400)...)}
	next := []api.Change{put("c", 5)}
	for _, left := range []int{20, 0} {
		cuts := 0
		for at := range 12 {
			d, s, was := filled(t, left)
			is(t, "Arm", d.Arm(at+1), api.OK)
			e := s.Commit(l)
			if e == api.OK {
				continue
			}
			cuts++
			is(t, "cut", e, api.ErrPower)
			holds(t, "cut", s, was...)
			if s.Room() != left {
				t.Errorf("cut: Room = %d", s.Room())
			}
			is(t, "dark", s.Commit(l), api.ErrPower)
			is(t, "Crash", d.Crash(somePicks(r)), api.OK)
			holds(t, "behind the cut", s, was...)
			is(t, "goes on", s.Commit(next), api.OK)
			holds(t, "goes on", s, after(was, next)...)
			holds(t, "opened", opened(t, d), after(was, next)...)
		}
		// A batch of four blocks, or all in five, and three steps behind them.
		if want := map[int]int{20: 7, 0: 8}[left]; cuts != want {
			t.Errorf("%d left: cut at %d steps, want %d", left, cuts, want)
		}
	}
}

// P9.4

func TestEveryCutOfACommit(t *testing.T) {
	r := rand.New(rand.NewSource(93))
	l := []api.Change{gone("a"), put("b", bytes.Repeat([]byte{3}, 400)...), put("z")}
	for _, left := range []int{20, 0} {
		d, s, was := filled(t, left)
		now := after(was, l)
		steps := d.Steps()
		is(t, "Commit", s.Commit(l), api.OK)
		steps = d.Steps() - steps
		ahead, behind := 0, 0
		for at := 1; at <= steps+1; at++ {
			for range 60 {
				d, s, _ := filled(t, left)
				is(t, "Arm", d.Arm(at), api.OK)
				e := s.Commit(l)
				if (e == api.OK) != (at > steps) || e != api.OK && e != api.ErrPower {
					t.Fatalf("cut at %d of %d: %v", at, steps, e)
				}
				is(t, "Crash", d.Crash(somePicks(r)), api.OK)
				switch rows := opened(t, d).Rows(); {
				case sameRows(rows, now):
					behind++
				case sameRows(rows, was) && e != api.OK:
					ahead++
				default:
					t.Fatalf("cut at %d of %d: Rows = %x", at, steps, rows)
				}
			}
		}
		if ahead == 0 || behind <= 60 {
			t.Errorf("ahead %d times, behind %d times", ahead, behind)
		}
	}
}

func TestCutAfterCut(t *testing.T) {
	r := rand.New(rand.NewSource(94))
	for range 30 {
		d, s := made(t, 64+r.Intn(4))
		for range 60 {
			l := someChanges(r, 300)
			was := s.Rows()
			is(t, "Arm", d.Arm(r.Intn(30)), api.OK)
			e := s.Commit(l)
			is(t, "Crash", d.Crash(somePicks(r)), api.OK)
			s = opened(t, d)
			now := after(was, l)
			if e == api.ErrPower && sameRows(s.Rows(), was) {
				now = was
			}
			holds(t, "opened", s, now...)
		}
	}
}

func TestWhatIsOpenedHangsOnTheChangesAlone(t *testing.T) {
	r := rand.New(rand.NewSource(95))
	laidAnew := false
	for range 30 {
		var l [][]api.Change
		var rows []api.Row
		for range 60 {
			l = append(l, someChanges(r, 200))
			rows = after(rows, l[len(l)-1])
		}
		for _, blocks := range []int{64, 65, 100, 1000} {
			d, s := made(t, blocks)
			for _, x := range l {
				was := s.Room()
				is(t, "Commit", s.Commit(x), api.OK)
				laidAnew = laidAnew || s.Room() > was
				if r.Intn(5) == 0 {
					s = opened(t, d)
				}
			}
			holds(t, "opened", opened(t, d), rows...)
		}
		// All at once comes to the same.
		d, s := made(t, 64)
		var all []api.Change
		for _, x := range rows {
			all = append(all, put(x.Key, x.Value...))
		}
		is(t, "Commit", s.Commit(all), api.OK)
		holds(t, "opened", opened(t, d), rows...)
	}
	if !laidAnew {
		t.Error("never laid anew")
	}
}
