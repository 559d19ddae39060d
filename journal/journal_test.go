package journal_test

import (
	"bytes"
	"encoding/binary"
	"hash/crc32"
	"math/rand"
	"slices"
	"testing"

	"cardex/api"
	"cardex/disk"
	"cardex/head"
	"cardex/journal"
	"cardex/seal"
)

var castagnoli = crc32.MakeTable(crc32.Castagnoli)

// sealed is a block of a head, whether there may be such a head or not.
func sealed(number uint64, h api.Head) (b api.Block) {
	binary.LittleEndian.PutUint64(b[:8], number)
	b[8] = h.Bank
	binary.LittleEndian.PutUint32(b[9:13], h.Blocks)
	binary.LittleEndian.PutUint32(b[13:17], h.Batches)
	binary.LittleEndian.PutUint32(b[116:120], crc32.Checksum(b[:116], castagnoli))
	binary.LittleEndian.PutUint64(b[120:], ^number)
	return b
}

// stands are the blocks of batches that stand behind each other.
func stands(batches ...[]byte) []api.Block {
	var l []api.Block
	for _, b := range batches {
		all := binary.LittleEndian.AppendUint32(nil, uint32(len(b)))
		all = append(all, b...)
		for len(all) > 0 {
			var block api.Block
			all = all[copy(block[:], all):]
			l = append(l, block)
		}
	}
	return l
}

// some are bytes none of which is 0.
func some(r *rand.Rand, size int) []byte {
	b := make([]byte, size)
	for i := range b {
		b[i] = byte(1 + r.Intn(255))
	}
	return b
}

func empty(t *testing.T, blocks int) *disk.Disk {
	t.Helper()
	d, e := disk.New(blocks)
	if e != api.OK {
		t.Fatalf("New(%d): %v", blocks, e)
	}
	return d
}

func made(t *testing.T, blocks int) (*disk.Disk, *journal.Journal) {
	t.Helper()
	d := empty(t, blocks)
	j, e := journal.Make(d)
	if e != api.OK || j == nil {
		t.Fatalf("Make: %v", e)
	}
	return d, j
}

func opened(t *testing.T, d *disk.Disk) *journal.Journal {
	t.Helper()
	j, e := journal.Open(d)
	if e != api.OK || j == nil {
		t.Fatalf("Open: %v", e)
	}
	return j
}

func is(t *testing.T, what string, got, want api.Errno) {
	t.Helper()
	if got != want {
		t.Errorf("%s: %v, want %v", what, got, want)
	}
}

func refuses(t *testing.T, what string, d *disk.Disk, want api.Errno) {
	t.Helper()
	if j, e := journal.Open(d); j != nil || e != want {
		t.Errorf("%s: Open = %v, %v, want %v", what, j, e, want)
	}
}

func holds(t *testing.T, what string, j *journal.Journal, want ...[]byte) {
	t.Helper()
	if l := j.Batches(); !slices.EqualFunc(l, want, bytes.Equal) {
		t.Errorf("%s: Batches = %x, want %x", what, l, want)
	}
}

func tells(t *testing.T, what string, j *journal.Journal, room int, h api.Head) {
	t.Helper()
	if j.Room() != room || j.Head() != h {
		t.Errorf("%s: Room, Head = %d, %v, want %d, %v", what, j.Room(), j.Head(), room, h)
	}
}

// image is all that is sure on a disk.
func image(t *testing.T, d *disk.Disk) []api.Block {
	t.Helper()
	l := make([]api.Block, d.Blocks())
	for n := range l {
		b, e := d.Sure(n)
		if e != api.OK {
			t.Fatalf("Sure(%d): %v", n, e)
		}
		l[n] = b
	}
	return l
}

// same holds a disk against what is to be sure on it, behind so many steps.
func same(t *testing.T, what string, d *disk.Disk, want []api.Block, steps int) {
	t.Helper()
	if d.Steps() != steps || d.Loose() != 0 {
		t.Errorf("%s: Steps, Loose = %d, %d, want %d, 0", what, d.Steps(), d.Loose(), steps)
	}
	for n, b := range image(t, d) {
		if b != want[n] {
			t.Fatalf("%s: block %d = %x, want %x", what, n, b, want[n])
		}
	}
}

// lay makes blocks sure, whatever was there.
func lay(t *testing.T, d *disk.Disk, at int, l ...api.Block) {
	t.Helper()
	for i, b := range l {
		is(t, "Write", d.Write(at+i, b), api.OK)
	}
	is(t, "Flush", d.Flush(), api.OK)
}

func reads(t *testing.T, what string, d *disk.Disk, n int, want api.Block) {
	t.Helper()
	if b, e := d.Read(n); e != api.OK || b != want {
		t.Errorf("%s: Read(%d) = %x, %v, want %x", what, n, b, e, want)
	}
}

// dark is a disk whose power is cut.
func dark(t *testing.T, d *disk.Disk) {
	t.Helper()
	is(t, "Arm", d.Arm(1), api.OK)
	is(t, "Flush", d.Flush(), api.ErrPower)
}

func TestExamples(t *testing.T) {
	d := empty(t, 66)
	refuses(t, "0s", d, api.ErrForm)
	j, e := journal.Make(d)
	is(t, "Make", e, api.OK)
	tells(t, "made", j, 32, api.Head{})
	is(t, "Append", j.Append(make([]byte, 125)), api.OK)
	tells(t, "125 bytes", j, 30, api.Head{Blocks: 2, Batches: 1})
	is(t, "Append", j.Append(nil), api.OK)
	tells(t, "none", j, 29, api.Head{Blocks: 3, Batches: 2})
	is(t, "Replace", j.Replace(make([]byte, 7)), api.OK)
	holds(t, "replaced", j, make([]byte, 7))
	tells(t, "replaced", j, 31, api.Head{Bank: 1, Blocks: 1, Batches: 1})
	is(t, "Append", j.Append(make([]byte, 31*128)), api.ErrFull)
}

// P7.1

func TestMake(t *testing.T) {
	for _, blocks := range []int{64, 65, 66, 67, 4095, 4096} {
		d, j := made(t, blocks)
		want := make([]api.Block, blocks)
		want[0] = sealed(1, api.Head{})
		same(t, "made", d, want, 5)
		tells(t, "made", j, (blocks-2)/2, api.Head{})
		holds(t, "made", j)
		x := opened(t, d)
		tells(t, "opened", x, (blocks-2)/2, api.Head{})
		holds(t, "opened", x)
	}
}

func TestMakeOverAnotherOne(t *testing.T) {
	r := rand.New(rand.NewSource(1))
	for _, laid := range []int{1, 2, 3, 4} {
		d, j := made(t, 66)
		for range laid {
			is(t, "Replace", j.Replace(some(r, 300)), api.OK)
		}
		want := image(t, d)
		steps := d.Steps()
		x, e := journal.Make(d)
		is(t, "Make", e, api.OK)
		want[0], want[1] = sealed(1, api.Head{}), api.Block{}
		same(t, "made anew", d, want, steps+5)
		tells(t, "made anew", x, 32, api.Head{})
		holds(t, "made anew", x)
		holds(t, "opened", opened(t, d))
	}
}

func TestMakeRefuses(t *testing.T) {
	for _, d := range []*disk.Disk{nil, {}} {
		if j, e := journal.Make(d); j != nil || e != api.ErrNil {
			t.Errorf("Make = %v, %v", j, e)
		}
	}
	d := empty(t, 64)
	dark(t, d)
	if j, e := journal.Make(d); j != nil || e != api.ErrPower {
		t.Errorf("Make = %v, %v", j, e)
	}
}

func TestMakeGoesStepByStep(t *testing.T) {
	loose := []int{0, 1, 2, 0, 1}
	for at := 1; at <= 5; at++ {
		d, j := made(t, 64)
		is(t, "Append", j.Append([]byte{1}), api.OK)
		steps := d.Steps()
		is(t, "Arm", d.Arm(at), api.OK)
		if j, e := journal.Make(d); j != nil || e != api.ErrPower {
			t.Errorf("Make = %v, %v", j, e)
		}
		if !d.Dark() || d.Steps() != steps+at-1 || d.Loose() != loose[at-1] {
			t.Errorf("cut at %d: Steps, Loose = %d, %d", at, d.Steps()-steps, d.Loose())
		}
		// Ahead of the first Flush the elder journal is there; behind it no head is, till the new one.
		if at <= 3 {
			is(t, "Crash", d.Crash(nil), api.OK)
			holds(t, "the elder", opened(t, d), []byte{1})
		} else {
			is(t, "Crash", d.Crash(nil), api.OK)
			refuses(t, "no head", d, api.ErrForm)
		}
	}
}

func TestOpenWritesNothing(t *testing.T) {
	r := rand.New(rand.NewSource(2))
	d, j := made(t, 66)
	l := [][]byte{some(r, 300), nil, some(r, 124)}
	for _, b := range l {
		is(t, "Append", j.Append(b), api.OK)
	}
	want, steps := image(t, d), d.Steps()
	x := opened(t, d)
	holds(t, "opened", x, l...)
	tells(t, "opened", x, 27, api.Head{Blocks: 5, Batches: 3})
	refuses(t, "nil", nil, api.ErrNil)
	same(t, "opened", d, want, steps)
	is(t, "Rot", d.Rot(2, 0, 7), api.OK)
	refuses(t, "a batch of another length", d, api.ErrForm)
	is(t, "Rot", d.Rot(2, 0, 7), api.OK)
	same(t, "refused", d, want, steps)
}

func TestOpenRefusesWithoutADisk(t *testing.T) {
	refuses(t, "nil", nil, api.ErrNil)
	refuses(t, "zero", &disk.Disk{}, api.ErrNil)
	d, _ := made(t, 64)
	dark(t, d)
	refuses(t, "dark", d, api.ErrPower)
	d = empty(t, 64)
	dark(t, d)
	refuses(t, "dark, and no head", d, api.ErrPower)
}

func TestOpenRefusesWithoutAHead(t *testing.T) {
	torn := sealed(5, api.Head{})
	torn[127] ^= 1
	sum := sealed(5, api.Head{})
	sum[60] ^= 1
	none := []api.Block{{}, {1}, torn, sum, sealed(5, api.Head{Bank: 2}), sealed(5, api.Head{Batches: 1}), sealed(1<<62+1, api.Head{})}
	for _, a := range none {
		for _, b := range none {
			d := empty(t, 64)
			lay(t, d, 0, a, b)
			refuses(t, "no head", d, api.ErrForm)
		}
		for _, at := range []int{0, 1} {
			d := empty(t, 64)
			lay(t, d, 0, a, a)
			lay(t, d, at, sealed(4, api.Head{Bank: 1}))
			tells(t, "a head, and none", opened(t, d), 31, api.Head{Bank: 1})
		}
	}
}

func TestOpenOfGreatNumbers(t *testing.T) {
	for _, number := range []uint64{1, 2, 1<<32 + 1, 1<<61 - 1, 1 << 61} {
		for _, at := range []int{0, 1} {
			d := empty(t, 64)
			lay(t, d, at, sealed(number, api.Head{Bank: 1}))
			tells(t, "opened", opened(t, d), 31, api.Head{Bank: 1})
		}
	}
	for _, number := range []uint64{1<<61 + 1, 1<<61 + 1<<32, 1<<62 - 1, 1 << 62} {
		for _, at := range []int{0, 1} {
			d := empty(t, 64)
			lay(t, d, at, sealed(number, api.Head{}))
			refuses(t, "a great number", d, api.ErrForm)
			lay(t, d, 1-at, sealed(1<<61, api.Head{}))
			refuses(t, "a great number, and another one", d, api.ErrForm)
		}
	}
}

func TestOpenGoesByTheNewest(t *testing.T) {
	r := rand.New(rand.NewSource(3))
	a, b := some(r, 200), some(r, 10)
	d := empty(t, 66)
	lay(t, d, 2, stands(a)...)
	lay(t, d, 2+32, stands(b)...)
	old, now := api.Head{Blocks: 2, Batches: 1}, api.Head{Bank: 1, Blocks: 1, Batches: 1}
	lay(t, d, 0, sealed(8, old), sealed(9, now))
	holds(t, "the second", opened(t, d), b)
	lay(t, d, 0, sealed(9, now), sealed(8, old))
	holds(t, "the first", opened(t, d), b)
	lay(t, d, 0, sealed(8, now), sealed(8, old))
	holds(t, "the same number", opened(t, d), b)
	lay(t, d, 0, sealed(8, old), sealed(8, now))
	holds(t, "the same number, turned round", opened(t, d), a)
	// The elder one is all right, but does not count.
	lay(t, d, 0, sealed(8, old), sealed(9, api.Head{Bank: 1, Blocks: 2, Batches: 1}))
	refuses(t, "a newest one of blocks that are not its batches'", d, api.ErrForm)
	lay(t, d, 0, sealed(8, old), sealed(9, api.Head{Bank: 1, Blocks: 33, Batches: 33}))
	refuses(t, "a newest one of more blocks than a bank has", d, api.ErrForm)
}

func TestOpenOfAFullBank(t *testing.T) {
	for _, blocks := range []int{64, 65, 66, 67, 4096} {
		size := (blocks - 2) / 2
		for bank := range 2 {
			d := empty(t, blocks)
			// Batches without bytes take a block each: whatever their number, they stand behind a full bank too.
			h := api.Head{Bank: uint8(bank), Blocks: uint32(size), Batches: uint32(size)}
			lay(t, d, 0, sealed(3, h))
			tells(t, "full", opened(t, d), 0, h)
			h.Blocks++
			h.Batches++
			lay(t, d, 0, sealed(4, h))
			refuses(t, "more than full", d, api.ErrForm)
			h.Blocks = api.MaxBlocks
			lay(t, d, 0, sealed(5, h))
			refuses(t, "all that a head may tell", d, api.ErrForm)
		}
	}
}

func TestOpenCountsBatchesAndBlocks(t *testing.T) {
	r := rand.New(rand.NewSource(4))
	l := [][]byte{some(r, 125), nil, some(r, 124), some(r, 252), some(r, 253)}
	ends := []uint32{0, 2, 3, 4, 6, 9}
	for bank := range 2 {
		d := empty(t, 70)
		lay(t, d, 2+34*bank, stands(l...)...)
		for blocks := range uint32(13) {
			for batches := range blocks + 1 {
				lay(t, d, 1, sealed(7, api.Head{Bank: uint8(bank), Blocks: blocks, Batches: batches}))
				// Behind the fifth batch stand 0s, which are batches without bytes.
				want := l[:min(batches, 5)]
				end := ends[len(want)]
				for range batches - uint32(len(want)) {
					want = append(slices.Clone(want), nil)
					end++
				}
				if end == blocks {
					holds(t, "opened", opened(t, d), want...)
				} else {
					refuses(t, "other blocks", d, api.ErrForm)
				}
			}
		}
	}
}

func TestOpenWantsZerosBehind(t *testing.T) {
	r := rand.New(rand.NewSource(5))
	for _, size := range []int{0, 1, 123, 124, 125, 251, 252, 300} {
		a, b := some(r, size), some(r, 9)
		d := empty(t, 64)
		all := stands(a, b)
		first := len(all) - 1
		lay(t, d, 2, all...)
		lay(t, d, 0, sealed(3, api.Head{Blocks: uint32(len(all)), Batches: 2}))
		holds(t, "0s behind", opened(t, d), a, b)
		for at := 4 + size; at < first*api.Size; at++ {
			is(t, "Rot", d.Rot(2+at/api.Size, at%api.Size, 1<<(at%8)), api.OK)
			refuses(t, "a byte behind the first one", d, api.ErrForm)
			is(t, "Rot", d.Rot(2+at/api.Size, at%api.Size, 1<<(at%8)), api.OK)
		}
		for at := 4 + 9; at < api.Size; at++ {
			is(t, "Rot", d.Rot(2+first, at, 128), api.OK)
			refuses(t, "a byte behind the last one", d, api.ErrForm)
			is(t, "Rot", d.Rot(2+first, at, 128), api.OK)
		}
		// What stands behind the blocks that count is nobody's.
		is(t, "Rot", d.Rot(2+first+1, 0, 255), api.OK)
		holds(t, "behind them all", opened(t, d), a, b)
	}
}

func TestOpenRefusesLengths(t *testing.T) {
	for _, length := range []uint32{125, 128, 1000, api.MaxBatch, api.MaxBatch + 1, 1 << 31, 1<<32 - 4, 1<<32 - 1} {
		d := empty(t, 64)
		var b api.Block
		binary.LittleEndian.PutUint32(b[:4], length)
		lay(t, d, 2, b)
		lay(t, d, 0, sealed(3, api.Head{Blocks: 1, Batches: 1}))
		refuses(t, "a length", d, api.ErrForm)
	}
}

// P7.2

// model is what a disk is to be like.
type model struct {
	blocks []api.Block
	steps  int
	h      api.Head
	number uint64
	at     int // of the newest head
	l      [][]byte
}

func modelOf(blocks int) *model {
	m := &model{blocks: make([]api.Block, blocks), steps: 5, number: 1}
	m.blocks[0] = sealed(1, api.Head{})
	return m
}

func (m *model) size() int { return (len(m.blocks) - 2) / 2 }

// add tells what is to be answered.
func (m *model) add(b []byte, all bool) api.Errno {
	h, l := m.h, append(slices.Clone(m.l), slices.Clone(b))
	if all {
		h, l = api.Head{Bank: 1 - m.h.Bank}, l[len(l)-1:]
	}
	now := stands(b)
	if int(h.Blocks)+len(now) > m.size() {
		return api.ErrFull
	}
	copy(m.blocks[2+int(h.Bank)*m.size()+int(h.Blocks):], now)
	h.Blocks += uint32(len(now))
	h.Batches++
	m.h, m.l = h, l
	m.number++
	m.at = 1 - m.at
	m.blocks[m.at] = sealed(m.number, h)
	m.steps += len(now) + 3
	return api.OK
}

func (m *model) check(t *testing.T, what string, d *disk.Disk, j *journal.Journal) {
	t.Helper()
	same(t, what, d, m.blocks, m.steps)
	tells(t, what, j, m.size()-int(m.h.Blocks), m.h)
	holds(t, what, j, m.l...)
}

func do(j *journal.Journal, b []byte, all bool) api.Errno {
	if all {
		return j.Replace(b)
	}
	return j.Append(b)
}

func TestAppendAndReplace(t *testing.T) {
	r := rand.New(rand.NewSource(6))
	sizes := []int{0, 1, 123, 124, 125, 251, 252, 253, 900, 2000}
	for _, blocks := range []int{64, 65, 66, 91, 200} {
		for _, rare := range []int{2, 5, 12} {
			d, j := made(t, blocks)
			m := modelOf(blocks)
			for range 60 {
				b := some(r, sizes[r.Intn(len(sizes))])
				all := r.Intn(rare) == 0
				want := m.add(b, all)
				is(t, "Append, Replace", do(j, b, all), want)
				m.check(t, "the same", d, j)
				x := opened(t, d)
				m.check(t, "opened", d, x)
				if r.Intn(3) == 0 {
					j = x
				}
			}
		}
	}
}

func TestTheGreatestDisk(t *testing.T) {
	r := rand.New(rand.NewSource(7))
	d, j := made(t, api.MaxBlocks)
	m := modelOf(api.MaxBlocks)
	full := 2047*api.Size - 4
	for _, x := range []struct {
		size int
		all  bool
		want api.Errno
	}{
		{full + 1, false, api.ErrFull},
		{full + 1, true, api.ErrFull},
		{full, false, api.OK},
		{0, false, api.ErrFull},
		{full, true, api.OK},
		{api.MaxBatch, true, api.ErrFull},
		{api.MaxBatch, false, api.ErrFull},
		{70000, true, api.OK},
		{70000, false, api.OK},
	} {
		b := some(r, x.size)
		is(t, "the model", m.add(b, x.all), x.want)
		is(t, "Append, Replace", do(j, b, x.all), x.want)
		m.check(t, "the same", d, j)
		m.check(t, "opened", d, opened(t, d))
	}
}

func TestRoomToTheLastByte(t *testing.T) {
	r := rand.New(rand.NewSource(8))
	for _, blocks := range []int{64, 65, 66} {
		size := (blocks - 2) / 2
		for used := range 4 {
			for _, all := range []bool{false, true} {
				d, j := made(t, blocks)
				m := modelOf(blocks)
				for range used {
					m.add(nil, false)
					is(t, "Append", j.Append(nil), api.OK)
				}
				room := size
				if !all {
					room -= used
				}
				b := some(r, room*api.Size-4+1)
				is(t, "one byte too many", do(j, b, all), api.ErrFull)
				m.check(t, "one byte too many", d, j)
				is(t, "the model", m.add(b[1:], all), api.OK)
				is(t, "just the room", do(j, b[1:], all), api.OK)
				m.check(t, "just the room", d, j)
				is(t, "none", j.Append(nil), api.ErrFull)
				m.check(t, "none", d, j)
				m.add(nil, true)
				is(t, "none", j.Replace(nil), api.OK)
				m.check(t, "none but that", d, j)
			}
		}
	}
}

func TestAppendAndReplaceOfNoJournal(t *testing.T) {
	var none *journal.Journal
	for _, j := range []*journal.Journal{none, {}} {
		for _, b := range [][]byte{nil, {1}, make([]byte, api.MaxBatch+1)} {
			is(t, "Append", j.Append(b), api.ErrNil)
			is(t, "Replace", j.Replace(b), api.ErrNil)
		}
		tells(t, "none", j, 0, api.Head{})
		holds(t, "none", j)
	}
}

func TestTheOrderOfErrors(t *testing.T) {
	for _, all := range []bool{false, true} {
		d, j := made(t, 64)
		m := modelOf(64)
		is(t, "above the limit", do(j, make([]byte, api.MaxBatch+1), all), api.ErrLimit)
		is(t, "at the limit", do(j, make([]byte, api.MaxBatch), all), api.ErrFull)
		m.check(t, "refused", d, j)
		dark(t, d)
		is(t, "above the limit, dark", do(j, make([]byte, api.MaxBatch+1), all), api.ErrLimit)
		is(t, "no room, dark", do(j, make([]byte, api.MaxBatch), all), api.ErrPower)
		is(t, "dark", do(j, nil, all), api.ErrPower)
		if d.Loose() != 0 || d.Steps() != 5 {
			t.Errorf("in the dark: Steps, Loose = %d, %d", d.Steps(), d.Loose())
		}
		is(t, "Crash", d.Crash(nil), api.OK)
		m.check(t, "behind the dark", d, j)
		// No step is taken where there is no room: the power isn't cut.
		is(t, "Arm", d.Arm(1), api.OK)
		is(t, "no room", do(j, make([]byte, 31*128), all), api.ErrFull)
		is(t, "above the limit", do(j, make([]byte, api.MaxBatch+1), all), api.ErrLimit)
		if d.Dark() {
			t.Error("dark")
		}
	}
}

func TestStepByStep(t *testing.T) {
	r := rand.New(rand.NewSource(9))
	for _, all := range []bool{false, true} {
		for _, size := range []int{0, 124, 125, 700} {
			b := some(r, size)
			n := len(stands(b))
			for at := 1; at <= n+4; at++ {
				d, j := made(t, 66)
				is(t, "Append", j.Append([]byte{7}), api.OK)
				steps, h, room := d.Steps(), j.Head(), j.Room()
				is(t, "Arm", d.Arm(at), api.OK)
				e := do(j, b, all)
				if at > n+3 {
					is(t, "not cut", e, api.OK)
					continue
				}
				is(t, "cut", e, api.ErrPower)
				loose := []int{n, 0, 1} // where the steps behind the blocks are cut
				want := at - 1
				if at > n {
					want = loose[at-n-1]
				}
				if !d.Dark() || d.Steps() != steps+at-1 || d.Loose() != want {
					t.Errorf("cut at %d of %d blocks: Steps, Loose = %d, %d", at, n, d.Steps()-steps, d.Loose())
				}
				tells(t, "cut", j, room, h)
				holds(t, "cut", j)
			}
		}
	}
}

func TestBlocksGoOneByOne(t *testing.T) {
	r := rand.New(rand.NewSource(10))
	for _, all := range []bool{false, true} {
		b := some(r, 600)
		l := stands(b)
		for kept := range len(l) + 1 {
			d, j := made(t, 66)
			is(t, "Append", j.Append([]byte{7}), api.OK)
			want := image(t, d)
			is(t, "Arm", d.Arm(len(l)+1), api.OK)
			is(t, "cut", do(j, b, all), api.ErrPower)
			is(t, "Crash", d.Crash(slices.Repeat([]int{api.Size}, kept)), api.OK)
			at := 3
			if all {
				at = 2 + 32
			}
			copy(want[at:], l[:kept])
			same(t, "so many were kept", d, want, d.Steps())
		}
	}
}

func TestWhereTheHeadIsLaid(t *testing.T) {
	for _, all := range []bool{false, true} {
		for n := range 6 {
			d, j := made(t, 66)
			for range n {
				is(t, "Append", do(j, []byte{1}, all), api.OK)
			}
			at := n % 2 // of the newest one
			number := uint64(n + 1)
			old, _ := d.Read(at)
			// The elder one is torn: it is that one which is written over, as ever.
			is(t, "Rot", d.Rot(1-at, 5, 9), api.OK)
			is(t, "Append", do(j, nil, all), api.OK)
			reads(t, "the elder one torn", d, at, old)
			reads(t, "the elder one torn", d, 1-at, sealed(number+1, j.Head()))
			// The newest one is torn: the elder one counts.
			is(t, "Rot", d.Rot(1-at, 5, 9), api.OK)
			is(t, "Append", do(j, nil, all), api.OK)
			reads(t, "the newest one torn", d, at, old)
			reads(t, "the newest one torn", d, 1-at, sealed(number+1, j.Head()))
			// No head is left.
			is(t, "Rot", d.Rot(0, 120, 1), api.OK)
			is(t, "Rot", d.Rot(1, 0, 1), api.OK)
			want := j.Batches()
			is(t, "Append", j.Append([]byte{2}), api.OK)
			reads(t, "both torn", d, 0, sealed(1, j.Head()))
			holds(t, "opened", opened(t, d), append(want, []byte{2})...)
		}
	}
}

func TestWhereTheHeadIsLaidOverHeadsOfTheSameNumber(t *testing.T) {
	d := empty(t, 66)
	a, b := sealed(8, api.Head{Bank: 1}), sealed(8, api.Head{})
	lay(t, d, 0, a, b)
	j := opened(t, d)
	is(t, "Append", j.Append(nil), api.OK)
	reads(t, "the first one counts", d, 0, a)
	reads(t, "the first one counts", d, 1, sealed(9, api.Head{Bank: 1, Blocks: 1, Batches: 1}))
}

// beside are a block, and the number that counts where seal.Next goes by it: 0, if it is not sealed.
var beside = []struct {
	number uint64
	b      api.Block
}{
	{900, sealed(900, api.Head{Bank: 2})},
	{7, sealed(7, api.Head{Bank: 255})},
	{6, sealed(6, api.Head{Batches: 1})},
	{5, sealed(5, api.Head{Blocks: api.MaxBlocks + 1})},
	{900, withByte(sealed(900, api.Head{}), 17, 1)},
	{6, withByte(sealed(6, api.Head{}), 115, 128)},
	{1<<62 + 1, sealed(1<<62+1, api.Head{})},
	{1 << 63, sealed(1<<63, api.Head{})},
	{1<<64 - 1, sealed(1<<64-1, api.Head{Bank: 2})},
	{0, sealed(0, api.Head{})},
	{0, sealed(0, api.Head{Bank: 2})},
	{0, turned(sealed(900, api.Head{Bank: 2}), 8)},
	{0, turned(sealed(900, api.Head{Bank: 2}), 116)},
	{0, turned(sealed(900, api.Head{Bank: 2}), 119)},
	{0, turned(sealed(900, api.Head{Bank: 2}), 120)},
	{0, turned(sealed(900, api.Head{Bank: 2}), 127)},
	{0, turned(sealed(900, api.Head{}), 0)},
	{0, turned(sealed(900, api.Head{}), 7)},
	{0, turned(sealed(1<<63, api.Head{}), 50)},
	{0, api.Block{}},
}

// withByte is a block sealed anew, with a byte of its own.
func withByte(b api.Block, at int, c byte) api.Block {
	b[at] = c
	binary.LittleEndian.PutUint32(b[116:120], crc32.Checksum(b[:116], castagnoli))
	return b
}

// turned is a block with a bit turned, and not sealed therefore.
func turned(b api.Block, at int) api.Block {
	b[at] ^= 16
	return b
}

// behind is which of two blocks is to be written over.
func behind(first, second uint64) int {
	if first > 0 && first >= second {
		return 1
	}
	return 0
}

func TestWhereTheHeadIsLaidBesideWhatIsNoHead(t *testing.T) {
	for n, x := range beside {
		for at := range 2 {
			for _, all := range []bool{false, true} {
				d := empty(t, 66)
				h := api.Head{Bank: 1, Blocks: 2, Batches: 2}
				lay(t, d, 1-at, x.b)
				lay(t, d, at, sealed(6, h))
				j := opened(t, d)
				blocks, numbers := [2]api.Block{}, [2]uint64{}
				blocks[at], blocks[1-at] = sealed(6, h), x.b
				numbers[at], numbers[1-at] = 6, x.number
				// The first head goes by the one that is no head; those behind it still do, while it stands there.
				for number := uint64(7); number < 12; number++ {
					to := behind(numbers[0], numbers[1])
					if to != seal.Next(blocks[0], blocks[1]) {
						t.Fatalf("%d: seal.Next(%x, %x) is not %d", n, blocks[0], blocks[1], to)
					}
					is(t, "Append, Replace", do(j, []byte{1}, all), api.OK)
					blocks[to], numbers[to] = sealed(number, j.Head()), number
					reads(t, "the block 0", d, 0, blocks[0])
					reads(t, "the block 1", d, 1, blocks[1])
					tells(t, "opened", opened(t, d), j.Room(), j.Head())
				}
			}
		}
	}
}

func TestWhereTheHeadIsLaidIfThereIsNone(t *testing.T) {
	for _, x := range beside {
		for _, y := range beside {
			d, j := made(t, 64)
			lay(t, d, 0, x.b, y.b)
			refuses(t, "no head", d, api.ErrForm)
			is(t, "Append", j.Append([]byte{1}), api.OK)
			want := []api.Block{x.b, y.b}
			want[behind(x.number, y.number)] = sealed(1, api.Head{Blocks: 1, Batches: 1})
			reads(t, "the block 0", d, 0, want[0])
			reads(t, "the block 1", d, 1, want[1])
			holds(t, "opened", opened(t, d), []byte{1})
		}
	}
}

func TestAnotherJournalOnTheDisk(t *testing.T) {
	r := rand.New(rand.NewSource(11))
	for n := range 5 {
		for _, all := range []bool{false, true} {
			d, j := made(t, 66)
			var l [][]byte
			for range n {
				b := some(r, r.Intn(300))
				l = append(l, b)
				is(t, "Append", j.Append(b), api.OK)
			}
			other := opened(t, d)
			is(t, "the other one", do(other, some(r, 400), all), api.OK)
			// Each goes by its own head; what is laid last is the newest one.
			b := some(r, 130)
			is(t, "Append", j.Append(b), api.OK)
			holds(t, "the first one", j, append(l, b)...)
			holds(t, "opened", opened(t, d), append(l, b)...)
		}
	}
}

func TestAboveTheGreatestThatIsOpened(t *testing.T) {
	for _, all := range []bool{false, true} {
		d := empty(t, 64)
		lay(t, d, 1, sealed(1<<61, api.Head{}))
		j := opened(t, d)
		for n := range uint64(5) {
			is(t, "Append", do(j, []byte{1}, all), api.OK)
			reads(t, "on", d, int(n%2), sealed(1<<61+1+n, j.Head()))
			refuses(t, "above", d, api.ErrForm)
		}
		l := [][]byte{{1}, {1}, {1}, {1}, {1}}
		if all {
			l = l[4:]
		}
		holds(t, "above", j, l...)
	}
}

func TestNoHeadFollowsTheGreatest(t *testing.T) {
	for _, all := range []bool{false, true} {
		d, j := made(t, 64)
		lay(t, d, 1, sealed(1<<62, api.Head{}))
		want, steps := image(t, d), d.Steps()
		is(t, "Append", do(j, []byte{1}, all), api.ErrForm)
		same(t, "refused", d, want, steps)
		tells(t, "refused", j, 31, api.Head{})
	}
}

func TestWhatIsHandedInStays(t *testing.T) {
	r := rand.New(rand.NewSource(12))
	for _, all := range []bool{false, true} {
		_, j := made(t, 64)
		room := some(r, 400)
		b := room[:200]
		was := slices.Clone(room)
		is(t, "Append", do(j, b, all), api.OK)
		if !bytes.Equal(room, was) {
			t.Error("what was handed in was changed")
		}
		for i := range room {
			room[i] = 0
		}
		holds(t, "kept", j, was[:200])
	}
}

// P7.3

func TestInTheDark(t *testing.T) {
	d, j := made(t, 64)
	is(t, "Append", j.Append([]byte{1, 2}), api.OK)
	is(t, "Replace", j.Replace([]byte{3}), api.OK)
	h := api.Head{Bank: 1, Blocks: 1, Batches: 1}
	dark(t, d)
	tells(t, "dark", j, 30, h)
	holds(t, "dark", j)
	is(t, "Crash", d.Crash(nil), api.OK)
	tells(t, "not dark", j, 30, h)
	holds(t, "not dark", j, []byte{3})
}

func TestBatchesAreReadFromTheDisk(t *testing.T) {
	d, j := made(t, 64)
	is(t, "Append", j.Append([]byte{1, 2}), api.OK)
	is(t, "Append", j.Append([]byte{3}), api.OK)
	is(t, "Rot", d.Rot(2, 4, 8), api.OK)
	holds(t, "another byte", j, []byte{9, 2}, []byte{3})
	is(t, "Rot", d.Rot(2, 0, 3), api.OK)
	holds(t, "a shorter one, with a byte behind it", j)
	is(t, "Rot", d.Rot(2, 0, 3), api.OK)
	is(t, "Rot", d.Rot(3, 3, 255), api.OK)
	holds(t, "a longer one", j)
	is(t, "Rot", d.Rot(3, 3, 255), api.OK)
	is(t, "Rot", d.Rot(0, 0, 1), api.OK)
	is(t, "Rot", d.Rot(1, 0, 1), api.OK)
	refuses(t, "no head", d, api.ErrForm)
	holds(t, "by its own head", j, []byte{9, 2}, []byte{3})
	tells(t, "by its own head", j, 29, api.Head{Blocks: 2, Batches: 2})
}

func TestBatchesAreNewMemory(t *testing.T) {
	d, j := made(t, 64)
	is(t, "Append", j.Append([]byte{1, 2}), api.OK)
	is(t, "Append", j.Append([]byte{3, 4}), api.OK)
	want, steps := image(t, d), d.Steps()
	l := j.Batches()
	for i := range l {
		more := append(l[i], 9, 9, 9, 9)
		for k := range more {
			more[k] = 9
		}
		for k := range l[i] {
			l[i][k] = 8
		}
	}
	holds(t, "the same", j, []byte{1, 2}, []byte{3, 4})
	holds(t, "opened", opened(t, d), []byte{1, 2}, []byte{3, 4})
	same(t, "the same", d, want, steps)
}

// P7.4

// cutAndOpened cuts the power in the midst, and tells the batches that are there behind it.
func cutAndOpened(t *testing.T, d *disk.Disk, j *journal.Journal, b []byte, all bool, at int, picks []int) (*journal.Journal, bool) {
	t.Helper()
	was := j.Batches()
	now := append(slices.Clone(was), b)
	if all {
		now = now[len(now)-1:]
	}
	is(t, "Arm", d.Arm(at), api.OK)
	e := do(j, b, all)
	is(t, "Crash", d.Crash(picks), api.OK)
	x := opened(t, d)
	l := x.Batches()
	done := slices.EqualFunc(l, now, bytes.Equal)
	if !done && (e == api.OK || !slices.EqualFunc(l, was, bytes.Equal)) {
		t.Fatalf("cut at %d, kept %v, %v: Batches = %x, were %x", at, picks, e, l, was)
	}
	return x, done
}

func TestEveryCutOfEveryHead(t *testing.T) {
	r := rand.New(rand.NewSource(13))
	ahead, behind := 0, 0
	for _, all := range []bool{false, true} {
		for laid := range 4 {
			b := some(r, 200)
			for at := 1; at <= 6; at++ {
				for keep := range api.Size + 2 {
					d, j := made(t, 64)
					for range laid {
						is(t, "Replace", j.Replace([]byte{1, 2, 3}), api.OK)
					}
					picks := []int{keep, keep}
					if r.Intn(2) == 0 {
						picks = []int{keep, r.Intn(130)}
					}
					if _, done := cutAndOpened(t, d, j, b, all, at, picks); done {
						behind++
					} else {
						ahead++
					}
				}
			}
		}
	}
	if ahead == 0 || behind == 0 {
		t.Errorf("ahead %d, behind %d", ahead, behind)
	}
}

func TestCutAfterCut(t *testing.T) {
	r := rand.New(rand.NewSource(14))
	for range 20 {
		d, j := made(t, 64+r.Intn(8))
		for range 150 {
			b := some(r, r.Intn(4)*r.Intn(150))
			all := r.Intn(4) == 0 || j.Room() < len(stands(b))
			at := r.Intn(len(stands(b)) + 5)
			picks := make([]int, r.Intn(10))
			for i := range picks {
				picks[i] = r.Intn(140) - 5
			}
			j, _ = cutAndOpened(t, d, j, b, all, at, picks)
		}
	}
}

func TestWhatIsLaidIsAsTheLayersBeneathTellIt(t *testing.T) {
	d, j := made(t, 64)
	for n := range uint64(9) {
		a, _ := d.Read(0)
		b, _ := d.Read(1)
		at := seal.Next(a, b)
		is(t, "Append", do(j, []byte{byte(n)}, n%3 == 2), api.OK)
		x, _ := d.Read(at)
		number, h, e := head.Get(x)
		if number != n+2 || h != j.Head() || e != api.OK {
			t.Errorf("head.Get = %d, %v, %v, want %d, %v", number, h, e, n+2, j.Head())
		}
	}
}
