package disk_test

import (
	"math"
	"math/rand"
	"slices"
	"testing"

	"cardex/api"
	"cardex/disk"
)

// full is a block of one byte.
func full(c byte) (b api.Block) {
	for i := range b {
		b[i] = c
	}
	return b
}

// torn is a block whose first bytes are from one, the others from another.
func torn(first, rest api.Block, kept int) api.Block {
	copy(rest[:], first[:kept])
	return rest
}

// made is a disk of the fewest blocks.
func made(t *testing.T) *disk.Disk {
	t.Helper()
	d, e := disk.New(api.MinBlocks)
	if e != api.OK || d == nil {
		t.Fatalf("New: %v", e)
	}
	return d
}

func is(t *testing.T, what string, got, want api.Errno) {
	t.Helper()
	if got != want {
		t.Errorf("%s: %v, want %v", what, got, want)
	}
}

func reads(t *testing.T, d *disk.Disk, n int, want api.Block) {
	t.Helper()
	if b, e := d.Read(n); e != api.OK || b != want {
		t.Errorf("Read(%d) = %x, %v, want %x", n, b, e, want)
	}
}

func isSure(t *testing.T, d *disk.Disk, n int, want api.Block) {
	t.Helper()
	if b, e := d.Sure(n); e != api.OK || b != want {
		t.Errorf("Sure(%d) = %x, %v, want %x", n, b, e, want)
	}
}

func counts(t *testing.T, d *disk.Disk, steps, loose int, dark bool) {
	t.Helper()
	if d.Steps() != steps || d.Loose() != loose || d.Dark() != dark {
		t.Errorf("Steps, Loose, Dark = %d, %d, %v, want %d, %d, %v", d.Steps(), d.Loose(), d.Dark(), steps, loose, dark)
	}
}

// odd are places that no disk has.
func odd(blocks int) []int {
	return []int{-1, blocks, blocks + 1, math.MinInt, math.MaxInt}
}

// P4.1

func TestNew(t *testing.T) {
	for _, blocks := range []int{api.MinBlocks, api.MinBlocks + 1, 100, api.MaxBlocks - 1, api.MaxBlocks} {
		d, e := disk.New(blocks)
		if e != api.OK || d == nil || d.Blocks() != blocks {
			t.Fatalf("New(%d): %v", blocks, e)
		}
		for n := range blocks {
			reads(t, d, n, api.Block{})
			isSure(t, d, n, api.Block{})
		}
		counts(t, d, 0, 0, false)
	}
	for _, blocks := range []int{math.MinInt, -1, 0, 1, api.MinBlocks - 1, api.MaxBlocks + 1, math.MaxInt} {
		if d, e := disk.New(blocks); e != api.ErrArg || d != nil {
			t.Errorf("New(%d) = %v, %v", blocks, d, e)
		}
	}
}

func TestWrittenIsReadAtOnce(t *testing.T) {
	d := made(t)
	is(t, "Write", d.Write(0, full(1)), api.OK)
	is(t, "Write", d.Write(63, full(2)), api.OK)
	reads(t, d, 0, full(1))
	reads(t, d, 63, full(2))
	reads(t, d, 1, api.Block{})
	isSure(t, d, 0, api.Block{})
	is(t, "Write", d.Write(0, full(3)), api.OK)
	reads(t, d, 0, full(3))
	reads(t, d, 63, full(2))
	is(t, "Write", d.Write(0, api.Block{}), api.OK)
	reads(t, d, 0, api.Block{})
}

func TestFlushedIsSure(t *testing.T) {
	d := made(t)
	for i, c := range []byte{1, 2, 3, 4} {
		is(t, "Write", d.Write(i%3, full(c)), api.OK)
	}
	isSure(t, d, 0, api.Block{})
	is(t, "Flush", d.Flush(), api.OK)
	for n, c := range []byte{4, 2, 3, 0} {
		isSure(t, d, n, full(c))
		reads(t, d, n, full(c))
	}
	is(t, "Write", d.Write(1, full(9)), api.OK)
	isSure(t, d, 1, full(2))
	reads(t, d, 1, full(9))
	is(t, "Flush", d.Flush(), api.OK)
	is(t, "Flush", d.Flush(), api.OK)
	isSure(t, d, 1, full(9))
	is(t, "Crash", d.Crash(nil), api.OK)
	reads(t, d, 1, full(9))
	reads(t, d, 0, full(4))
}

func TestNoSuchBlock(t *testing.T) {
	d := made(t)
	for _, n := range odd(64) {
		if b, e := d.Read(n); e != api.ErrArg || b != (api.Block{}) {
			t.Errorf("Read(%d) = %x, %v", n, b, e)
		}
		is(t, "Write", d.Write(n, full(1)), api.ErrArg)
	}
	counts(t, d, 0, 0, false)
	is(t, "Write", d.Write(63, full(1)), api.OK)
}

func TestErrorsInTheirOrder(t *testing.T) {
	d := made(t)
	is(t, "Arm", d.Arm(1), api.OK)
	// No such block goes ahead of the cut, which is at none of the steps that are refused.
	is(t, "Write", d.Write(64, full(1)), api.ErrArg)
	counts(t, d, 0, 0, false)
	is(t, "Write", d.Write(0, full(1)), api.ErrPower)
	counts(t, d, 0, 0, true)
	// The dark goes ahead of no such block.
	is(t, "Write", d.Write(64, full(1)), api.ErrPower)
	is(t, "Write", d.Write(0, full(1)), api.ErrPower)
	is(t, "Flush", d.Flush(), api.ErrPower)
	for _, n := range []int{0, 64, -1} {
		if b, e := d.Read(n); e != api.ErrPower || b != (api.Block{}) {
			t.Errorf("Read(%d) = %x, %v", n, b, e)
		}
	}
	is(t, "Arm", d.Arm(-1), api.ErrPower)
	counts(t, d, 0, 0, true)
}

func TestNoDisk(t *testing.T) {
	var none *disk.Disk
	for _, d := range []*disk.Disk{none, {}} {
		for _, n := range []int{0, -1, 64} {
			if b, e := d.Read(n); e != api.ErrNil || b != (api.Block{}) {
				t.Errorf("Read(%d) = %x, %v", n, b, e)
			}
			if b, e := d.Sure(n); e != api.ErrNil || b != (api.Block{}) {
				t.Errorf("Sure(%d) = %x, %v", n, b, e)
			}
			is(t, "Write", d.Write(n, full(1)), api.ErrNil)
			is(t, "Rot", d.Rot(n, n, 1), api.ErrNil)
			is(t, "Arm", d.Arm(n), api.ErrNil)
		}
		is(t, "Flush", d.Flush(), api.ErrNil)
		is(t, "Crash", d.Crash([]int{1}), api.ErrNil)
		counts(t, d, 0, 0, false)
		if d.Blocks() != 0 || d.Copy() != nil {
			t.Errorf("Blocks, Copy = %d, %v", d.Blocks(), d.Copy())
		}
	}
}

// P4.2

func TestArmCutsAtTheStep(t *testing.T) {
	for n := 1; n <= 6; n++ {
		d := made(t)
		is(t, "Write", d.Write(9, full(7)), api.OK)
		is(t, "Arm", d.Arm(n), api.OK)
		for i := 1; i < n; i++ {
			if i%3 == 0 {
				is(t, "Flush", d.Flush(), api.OK)
			} else {
				is(t, "Write", d.Write(i, full(byte(i))), api.OK)
			}
			// What is refused, and what is no step, brings the cut no nearer.
			is(t, "Write", d.Write(-1, full(1)), api.ErrArg)
			is(t, "Rot", d.Rot(8, 0, 1), api.OK)
			reads(t, d, 9, full(7))
		}
		if d.Dark() || d.Steps() != n {
			t.Errorf("%d: dark %v ahead of the cut, %d steps", n, d.Dark(), d.Steps())
		}
		loose := d.Loose()
		if n%2 == 0 {
			is(t, "Flush", d.Flush(), api.ErrPower)
		} else {
			is(t, "Write", d.Write(20, full(1)), api.ErrPower)
		}
		counts(t, d, n, loose, true)
	}
}

func TestArmOfNothing(t *testing.T) {
	d := made(t)
	is(t, "Arm", d.Arm(0), api.OK)
	for i := range 10 {
		is(t, "Write", d.Write(i, full(1)), api.OK)
		is(t, "Flush", d.Flush(), api.OK)
	}
	counts(t, d, 20, 0, false)
	is(t, "Arm", d.Arm(math.MaxInt), api.OK)
	is(t, "Write", d.Write(1, full(1)), api.OK)
	counts(t, d, 21, 1, false)
}

func TestArmLetsTheOneAheadGo(t *testing.T) {
	d := made(t)
	is(t, "Arm", d.Arm(1), api.OK)
	is(t, "Arm", d.Arm(3), api.OK)
	is(t, "Flush", d.Flush(), api.OK)
	// One that is refused is none.
	is(t, "Arm", d.Arm(-1), api.ErrArg)
	is(t, "Arm", d.Arm(math.MinInt), api.ErrArg)
	is(t, "Flush", d.Flush(), api.OK)
	is(t, "Arm", d.Arm(0), api.OK)
	is(t, "Flush", d.Flush(), api.OK)
	is(t, "Arm", d.Arm(2), api.OK)
	is(t, "Flush", d.Flush(), api.OK)
	is(t, "Flush", d.Flush(), api.ErrPower)
	counts(t, d, 4, 0, true)
}

func TestCrashKeepsWhatItIsTold(t *testing.T) {
	for _, c := range []struct{ pick, kept int }{
		{math.MinInt, 0}, {-1, 0}, {0, 0}, {1, 1}, {2, 2}, {64, 64}, {127, 127}, {128, 128}, {129, 128}, {math.MaxInt, 128},
	} {
		d := made(t)
		d.Write(5, full(1))
		d.Flush()
		d.Write(5, full(2))
		is(t, "Crash", d.Crash([]int{c.pick}), api.OK)
		want := torn(full(2), full(1), c.kept)
		reads(t, d, 5, want)
		isSure(t, d, 5, want)
		counts(t, d, 3, 0, false)
	}
}

func TestCrashTakesNumbersInTheirOrder(t *testing.T) {
	d := made(t)
	d.Write(2, full(1))
	d.Write(1, full(2))
	d.Write(2, full(3))
	d.Write(2, full(4))
	d.Write(0, full(5))
	picks := []int{100, 10, 0, 4, 77, 99}
	is(t, "Crash", d.Crash(picks[:3:4]), api.OK)
	if !slices.Equal(picks, []int{100, 10, 0, 4, 77, 99}) {
		t.Errorf("picks: %v", picks)
	}
	reads(t, d, 2, torn(full(1), api.Block{}, 100))
	reads(t, d, 1, torn(full(2), api.Block{}, 10))
	// There was no number left for it.
	reads(t, d, 0, api.Block{})

	// One that is torn lies on those ahead of it.
	d.Write(3, full(6))
	d.Write(3, full(7))
	d.Write(3, full(8))
	is(t, "Crash", d.Crash([]int{128, 9, 4, 128, 128}), api.OK)
	reads(t, d, 3, torn(full(8), torn(full(7), full(6), 9), 4))
}

func TestCrashTakesAllBack(t *testing.T) {
	d := made(t)
	d.Write(0, full(1))
	is(t, "Arm", d.Arm(2), api.OK)
	// In the light: the power that was to be cut is not any more.
	is(t, "Crash", d.Crash([]int{128}), api.OK)
	for range 4 {
		is(t, "Flush", d.Flush(), api.OK)
	}
	counts(t, d, 5, 0, false)
	isSure(t, d, 0, full(1))
	// In the dark: the step at which it was cut is not done by it.
	is(t, "Arm", d.Arm(1), api.OK)
	is(t, "Write", d.Write(1, full(2)), api.ErrPower)
	is(t, "Crash", d.Crash([]int{128, 128}), api.OK)
	counts(t, d, 5, 0, false)
	reads(t, d, 1, api.Block{})
	is(t, "Write", d.Write(1, full(3)), api.OK)
	is(t, "Flush", d.Flush(), api.OK)
	counts(t, d, 7, 0, false)
	// All is sure behind it: a second one loses nothing.
	is(t, "Write", d.Write(2, full(4)), api.OK)
	is(t, "Crash", d.Crash([]int{5}), api.OK)
	is(t, "Crash", d.Crash([]int{0, 0}), api.OK)
	reads(t, d, 2, torn(full(4), api.Block{}, 5))
}

func TestLoose(t *testing.T) {
	d := made(t)
	for i := range 5 {
		d.Write(i%2, full(1))
		counts(t, d, i+1, i+1, false)
	}
	d.Write(64, full(1))
	counts(t, d, 5, 5, false)
	d.Flush()
	counts(t, d, 6, 0, false)
	d.Write(0, full(1))
	d.Crash(nil)
	counts(t, d, 7, 0, false)
}

// P4.3

func TestRot(t *testing.T) {
	d := made(t)
	d.Write(1, full(0x11))
	d.Flush()
	want := full(0x11)
	for _, c := range []struct {
		at int
		by byte
	}{{0, 0x80}, {127, 0xff}, {5, 3}, {5, 3}, {6, 0}, {5, 1}} {
		is(t, "Rot", d.Rot(1, c.at, c.by), api.OK)
		want[c.at] ^= c.by
		isSure(t, d, 1, want)
		reads(t, d, 1, want)
	}
	isSure(t, d, 0, api.Block{})
	isSure(t, d, 2, api.Block{})
	counts(t, d, 2, 0, false)
}

func TestRotLeavesWhatIsNotSure(t *testing.T) {
	d := made(t)
	d.Write(1, full(0x11))
	is(t, "Rot", d.Rot(1, 0, 0xff), api.OK)
	is(t, "Rot", d.Rot(1, 127, 0xff), api.OK)
	reads(t, d, 1, full(0x11))
	isSure(t, d, 1, api.Block{0: 0xff, 127: 0xff})
	x := d.Copy()
	is(t, "Crash", x.Crash([]int{1}), api.OK)
	reads(t, x, 1, api.Block{0: 0x11, 127: 0xff})
	is(t, "Flush", d.Flush(), api.OK)
	isSure(t, d, 1, full(0x11))
}

func TestWrongPlaces(t *testing.T) {
	d := made(t)
	for _, n := range odd(64) {
		if b, e := d.Sure(n); e != api.ErrArg || b != (api.Block{}) {
			t.Errorf("Sure(%d) = %x, %v", n, b, e)
		}
		is(t, "Rot", d.Rot(n, 0, 1), api.ErrArg)
	}
	for _, at := range odd(api.Size) {
		is(t, "Rot", d.Rot(0, at, 1), api.ErrArg)
	}
	for n := range 64 {
		isSure(t, d, n, api.Block{})
	}
}

func TestInTheDark(t *testing.T) {
	d := made(t)
	d.Write(0, full(1))
	d.Flush()
	d.Write(0, full(2))
	d.Arm(1)
	is(t, "Flush", d.Flush(), api.ErrPower)
	isSure(t, d, 0, full(1))
	is(t, "Rot", d.Rot(0, 127, 0x10), api.OK)
	is(t, "Rot", d.Rot(64, 0, 1), api.ErrArg)
	is(t, "Rot", d.Rot(0, 128, 1), api.ErrArg)
	if _, e := d.Sure(64); e != api.ErrArg {
		t.Errorf("Sure: %v", e)
	}
	want := full(1)
	want[127] = 0x11
	isSure(t, d, 0, want)
	if d.Blocks() != 64 {
		t.Errorf("Blocks = %d", d.Blocks())
	}
	x := d.Copy()
	counts(t, x, 3, 1, true)
	is(t, "Crash", d.Crash([]int{2}), api.OK)
	reads(t, d, 0, torn(full(2), want, 2))
	counts(t, x, 3, 1, true)
	is(t, "Write", x.Write(0, full(1)), api.ErrPower)
	is(t, "Crash", x.Crash([]int{3}), api.OK)
	reads(t, x, 0, torn(full(2), want, 3))
}

func TestCopyIsTheSame(t *testing.T) {
	d, _ := disk.New(100)
	d.Write(99, full(1))
	d.Flush()
	d.Write(99, full(2))
	d.Write(1, full(3))
	d.Arm(3)
	x := d.Copy()
	if x == d || x.Blocks() != 100 {
		t.Fatalf("Copy: %d blocks", x.Blocks())
	}
	counts(t, x, 4, 2, false)
	for _, y := range []*disk.Disk{x, d} {
		reads(t, y, 99, full(2))
		isSure(t, y, 99, full(1))
		reads(t, y, 1, full(3))
		// What is done on the one is done on it alone.
		is(t, "Write", y.Write(1, full(4)), api.OK)
		is(t, "Rot", y.Rot(99, 0, 1), api.OK)
		is(t, "Flush", y.Flush(), api.OK)
		is(t, "Flush", y.Flush(), api.ErrPower)
		counts(t, y, 6, 0, true)
		isSure(t, y, 1, full(4))
	}
}

func TestCopiesShareNothing(t *testing.T) {
	d := made(t)
	for i := range 5 {
		d.Write(i, full(1))
	}
	x, y := d.Copy(), d.Copy()
	x.Write(7, full(2))
	y.Write(7, full(3))
	d.Write(7, full(4))
	for i, c := range []*disk.Disk{x, y, d} {
		reads(t, c, 7, full(byte(i+2)))
		c.Flush()
		isSure(t, c, 7, full(byte(i+2)))
	}
}

// P4.4

// play does some steps, always the same ones for one seed, till the power is cut.
func play(d *disk.Disk, seed int64) api.Errno {
	some := rand.New(rand.NewSource(seed))
	for range 30 {
		var e api.Errno
		if some.Intn(6) == 0 {
			e = d.Flush()
		} else {
			e = d.Write(some.Intn(5), full(byte(1+some.Intn(255))))
		}
		if e != api.OK {
			return e
		}
	}
	return api.OK
}

func all(n, pick int) []int {
	return slices.Repeat([]int{pick}, n)
}

func TestWhereverThePowerIsCut(t *testing.T) {
	for seed := range int64(20) {
		for n := 1; n <= 30; n++ {
			d := made(t)
			d.Write(7, full(77))
			d.Flush()
			d.Arm(n)
			if e := play(d, seed); e != api.ErrPower || !d.Dark() || d.Steps() != 2+n-1 {
				t.Fatalf("cut at %d: %v, dark %v, %d steps", n, e, d.Dark(), d.Steps())
			}
			before := d.Copy()
			kept, lost, half := d.Copy(), d.Copy(), d.Copy()
			is(t, "Crash", kept.Crash(all(d.Loose(), 128)), api.OK)
			is(t, "Crash", lost.Crash(nil), api.OK)
			is(t, "Crash", half.Crash(all(d.Loose(), 50)), api.OK)
			for block := range 8 {
				was, _ := before.Sure(block)
				reads(t, lost, block, was)
				reads(t, kept, block, last(seed, n, block))
			}
			for _, c := range []*disk.Disk{kept, lost, half} {
				reads(t, c, 7, full(77))
				reads(t, c, 6, api.Block{})
			}
		}
	}
}

// last tells what a block holds without a cut, behind the steps ahead of the n-th.
func last(seed int64, n, block int) api.Block {
	if block == 7 {
		return full(77)
	}
	some := rand.New(rand.NewSource(seed))
	var b api.Block
	for range n - 1 {
		if some.Intn(6) == 0 {
			continue
		}
		at, c := some.Intn(5), byte(1+some.Intn(255))
		if at == block {
			b = full(c)
		}
	}
	return b
}

func TestCutBehindTheSteps(t *testing.T) {
	d := made(t)
	d.Arm(31)
	if e := play(d, 1); e != api.OK || d.Dark() || d.Steps() != 30 {
		t.Errorf("%v, dark %v, %d steps", e, d.Dark(), d.Steps())
	}
	is(t, "Flush", d.Flush(), api.ErrPower)
}

// Examples

func TestExamples(t *testing.T) {
	if _, e := disk.New(63); e != api.ErrArg {
		t.Errorf("New: %v", e)
	}
	d := made(t)
	is(t, "Arm", d.Arm(2), api.OK)
	is(t, "Write", d.Write(0, full(0x11)), api.OK)
	is(t, "Flush", d.Flush(), api.ErrPower)
	if _, e := d.Read(0); e != api.ErrPower {
		t.Errorf("Read: %v", e)
	}
	is(t, "Crash", d.Crash([]int{3}), api.OK)
	reads(t, d, 0, api.Block{0x11, 0x11, 0x11})
	if d.Steps() != 1 {
		t.Errorf("Steps = %d", d.Steps())
	}
	is(t, "Write", d.Write(64, full(0x11)), api.ErrArg)
}
