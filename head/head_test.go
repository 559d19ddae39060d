package head_test

import (
	"encoding/binary"
	"hash/crc32"
	"math"
	"math/rand"
	"slices"
	"testing"

	"cardex/api"
	"cardex/head"
	"cardex/seal"
)

var castagnoli = crc32.MakeTable(crc32.Castagnoli)

// laid is a block whose parts fit each other, whatever its number and its body.
func laid(number uint64, body []byte) (b api.Block) {
	binary.LittleEndian.PutUint64(b[:8], number)
	copy(b[8:116], body)
	binary.LittleEndian.PutUint32(b[116:120], crc32.Checksum(b[:116], castagnoli))
	binary.LittleEndian.PutUint64(b[120:], ^number)
	return b
}

// body is a head's, as the words tell it, whether there may be such a head or not.
func body(h api.Head) []byte {
	b := make([]byte, 108)
	b[0] = h.Bank
	binary.LittleEndian.PutUint32(b[1:5], h.Blocks)
	binary.LittleEndian.PutUint32(b[5:9], h.Batches)
	return b
}

// good are heads that may be: the edges, and what has a number in each of its bytes.
func good() []api.Head {
	return []api.Head{
		{},
		{Bank: 1},
		{Blocks: 1},
		{Blocks: 1, Batches: 1},
		{Bank: 1, Blocks: 255, Batches: 255},
		{Bank: 1, Blocks: 256, Batches: 255},
		{Bank: 1, Blocks: 0x0102, Batches: 0x0101},
		{Bank: 1, Blocks: 4095, Batches: 4094},
		{Blocks: 4096},
		{Bank: 1, Blocks: 4096, Batches: 4095},
		{Bank: 1, Blocks: 4096, Batches: 4096},
	}
}

// bad are heads that may not be.
func bad() []api.Head {
	return []api.Head{
		{Bank: 2},
		{Bank: 3, Blocks: 1, Batches: 1},
		{Bank: 128},
		{Bank: 255},
		{Blocks: 4097},
		{Blocks: 4097, Batches: 4097},
		{Blocks: 1 << 16},
		{Blocks: 1 << 31},
		{Blocks: math.MaxUint32},
		{Blocks: math.MaxUint32, Batches: math.MaxUint32},
		{Batches: 1},
		{Blocks: 1, Batches: 2},
		{Blocks: 255, Batches: 256},
		{Blocks: 4095, Batches: 4096},
		{Blocks: 4096, Batches: 4097},
		{Blocks: 4096, Batches: 1 << 31},
		{Blocks: 4096, Batches: math.MaxUint32},
	}
}

// goodNumbers are those at which a byte is full or begins, and the edges: the lower ones first.
func goodNumbers() []uint64 {
	l := []uint64{1, 2, 7}
	for bits := 8; bits < 62; bits += 8 {
		l = append(l, 1<<bits-1, 1<<bits, 1<<bits+1)
	}
	return append(l, 0x0102030405060708, 1<<62-1, 1<<62)
}

// badNumbers leaves 0 out, with which nothing is sealed.
func badNumbers() []uint64 {
	return []uint64{1<<62 + 1, 1<<62 + 1<<32, 1<<63 - 1, 1 << 63, 1<<63 + 1, math.MaxUint64 - 1, math.MaxUint64}
}

func put(t *testing.T, number uint64, h api.Head) api.Block {
	t.Helper()
	b, e := head.Put(number, h)
	if e != api.OK {
		t.Fatalf("Put(%d, %v): %v", number, h, e)
	}
	return b
}

func putRefuses(t *testing.T, number uint64, h api.Head) {
	t.Helper()
	if b, e := head.Put(number, h); b != (api.Block{}) || e != api.ErrArg {
		t.Errorf("Put(%d, %v) = %x, %v, want %v", number, h, b, e, api.ErrArg)
	}
}

func gets(t *testing.T, b api.Block, number uint64, h api.Head) {
	t.Helper()
	if n, got, e := head.Get(b); n != number || got != h || e != api.OK {
		t.Errorf("Get(%x) = %d, %v, %v, want %d, %v", b, n, got, e, number, h)
	}
}

func refuses(t *testing.T, b api.Block, want api.Errno) {
	t.Helper()
	if n, h, e := head.Get(b); n != 0 || h != (api.Head{}) || e != want {
		t.Errorf("Get(%x) = %d, %v, %v, want %v", b, n, h, e, want)
	}
}

func counts(t *testing.T, what string, a, b api.Block, number uint64, h api.Head, e api.Errno) {
	t.Helper()
	if n, got, err := head.Newest(a, b); n != number || got != h || err != e {
		t.Errorf("%s: Newest = %d, %v, %v, want %d, %v, %v", what, n, got, err, number, h, e)
	}
}

func TestExamples(t *testing.T) {
	putRefuses(t, 0, api.Head{})
	b := put(t, 1, api.Head{})
	gets(t, b, 1, api.Head{})
	putRefuses(t, 1, api.Head{Blocks: 1, Batches: 2})
	putRefuses(t, 1, api.Head{Bank: 2})
	counts(t, "1 and 0s", b, api.Block{}, 1, api.Head{}, api.OK)
}

// P6.1

func TestMay(t *testing.T) {
	for _, h := range good() {
		if !head.May(h) {
			t.Errorf("May(%v) = false", h)
		}
	}
	for _, h := range bad() {
		if head.May(h) {
			t.Errorf("May(%v) = true", h)
		}
	}
}

func TestPutLaysTheNumbers(t *testing.T) {
	b := put(t, 7, api.Head{Bank: 1, Blocks: 0x0203, Batches: 0x0104})
	want := api.Block{0: 7, 8: 1, 9: 3, 10: 2, 13: 4, 14: 1}
	if got := [116]byte(b[:116]); got != [116]byte(want[:116]) {
		t.Errorf("Put = %x, want %x", got, want[:116])
	}
	for _, number := range goodNumbers() {
		for _, h := range good() {
			if b := put(t, number, h); b != laid(number, body(h)) {
				t.Errorf("Put(%d, %v) = %x, want %x", number, h, b, laid(number, body(h)))
			}
		}
	}
}

func TestPutRefuses(t *testing.T) {
	for _, h := range good() {
		putRefuses(t, 0, h)
		for _, number := range badNumbers() {
			putRefuses(t, number, h)
		}
	}
	for _, h := range bad() {
		putRefuses(t, 0, h)
		putRefuses(t, 1, h)
		putRefuses(t, 1<<62, h)
		putRefuses(t, 1<<62+1, h)
	}
}

func TestGetTells(t *testing.T) {
	for _, number := range goodNumbers() {
		for _, h := range good() {
			gets(t, laid(number, body(h)), number, h)
		}
	}
}

func TestGetRefusesNumbersAndHeads(t *testing.T) {
	for _, h := range good() {
		for _, number := range badNumbers() {
			refuses(t, laid(number, body(h)), api.ErrForm)
		}
	}
	for _, h := range bad() {
		for _, number := range []uint64{1, 1 << 62, 1<<62 + 1} {
			refuses(t, laid(number, body(h)), api.ErrForm)
		}
	}
}

func TestGetRefusesBytesBehindTheNumbers(t *testing.T) {
	for _, h := range good() {
		for at := 9; at < 108; at++ {
			for _, c := range []byte{1, 128, 255} {
				x := body(h)
				x[at] = c
				refuses(t, laid(5, x), api.ErrForm)
			}
		}
	}
}

func TestGetHasSealsErrors(t *testing.T) {
	refuses(t, api.Block{}, api.ErrForm)
	b := laid(5, body(api.Head{Bank: 1, Blocks: 3, Batches: 2}))
	for at := range b {
		for bit := range 8 {
			x := b
			x[at] ^= 1 << bit
			want := api.ErrSum
			if at < 8 || at >= 120 {
				want = api.ErrForm
			}
			refuses(t, x, want)
			if _, _, e := seal.Get(x); e != want {
				t.Errorf("seal.Get(%x): %v, want %v", x, e, want)
			}
		}
	}
}

func TestGetHasSealsErrorsFirst(t *testing.T) {
	long := body(api.Head{})
	long[107] = 1
	for _, b := range []api.Block{
		laid(1<<62+1, body(api.Head{})),
		laid(math.MaxUint64-1, body(api.Head{})),
		laid(5, body(api.Head{Bank: 2})),
		laid(5, body(api.Head{Blocks: 4097})),
		laid(5, body(api.Head{Batches: 1})),
		laid(5, long),
	} {
		refuses(t, b, api.ErrForm)
		b[116] ^= 1
		refuses(t, b, api.ErrSum)
	}
}

// P6.2

func TestNewest(t *testing.T) {
	h := api.Head{Bank: 1, Blocks: 9, Batches: 4}
	g := api.Head{Blocks: 4096, Batches: 4096}
	l := goodNumbers()
	if !slices.IsSorted(l) {
		t.Fatal("the numbers are in no order")
	}
	for i, small := range l {
		for _, great := range l[i+1:] {
			a, b := laid(small, body(h)), laid(great, body(g))
			counts(t, "the second", a, b, great, g, api.OK)
			counts(t, "the first", b, a, great, g, api.OK)
		}
	}
}

func TestNewestOfTheSame(t *testing.T) {
	h := api.Head{Bank: 1, Blocks: 9, Batches: 4}
	g := api.Head{Blocks: 2, Batches: 2}
	for _, number := range goodNumbers() {
		a, b := laid(number, body(h)), laid(number, body(g))
		counts(t, "the same number", a, b, number, h, api.OK)
		counts(t, "the same number, turned round", b, a, number, g, api.OK)
		counts(t, "the same block", a, a, number, h, api.OK)
	}
}

// untaken are blocks that Get refuses; of some seal takes what is in them, with a number above each that a head has.
func untaken() []api.Block {
	sum := laid(900, body(api.Head{}))
	sum[50] ^= 1
	end := laid(900, body(api.Head{}))
	end[127] ^= 1
	long := body(api.Head{})
	long[9] = 1
	return []api.Block{
		{},
		{1},
		sum,
		end,
		laid(900, body(api.Head{Bank: 2})),
		laid(1<<62, body(api.Head{Batches: 1})),
		laid(1<<62, long),
		laid(1<<62+1, body(api.Head{})),
		laid(math.MaxUint64, body(api.Head{})),
	}
}

func TestNewestLeavesOutWhatGetRefuses(t *testing.T) {
	h := api.Head{Bank: 1, Blocks: 9, Batches: 4}
	a := laid(6, body(h))
	for i, x := range untaken() {
		counts(t, "taken, untaken", a, x, 6, h, api.OK)
		counts(t, "untaken, taken", x, a, 6, h, api.OK)
		for _, y := range untaken()[i:] {
			counts(t, "both untaken", x, y, 0, api.Head{}, api.ErrNone)
			counts(t, "both untaken, turned round", y, x, 0, api.Head{}, api.ErrNone)
		}
	}
}

// P6.3

func TestWhatIsPutIsGot(t *testing.T) {
	r := rand.New(rand.NewSource(6))
	for range 2000 {
		h := api.Head{Bank: uint8(r.Intn(4)), Blocks: uint32(r.Intn(4200))}
		h.Batches = uint32(r.Intn(int(h.Blocks) + 20))
		number := r.Uint64() >> r.Intn(64)
		b, e := head.Put(number, h)
		may := h.Bank < 2 && h.Blocks < 4097 && h.Batches <= h.Blocks && number > 0 && number <= 1<<62
		if may != (e == api.OK) {
			t.Fatalf("Put(%d, %v): %v", number, h, e)
		}
		if may {
			gets(t, b, number, h)
		}
	}
}

func TestWhatIsGotIsPutAsTheSameBlock(t *testing.T) {
	r := rand.New(rand.NewSource(7))
	got := 0
	for range 20000 {
		// Few bytes of few values, so that many a body is a head's, and many another one is one nearly.
		x := make([]byte, 108)
		for range r.Intn(4) {
			x[r.Intn(12)] = byte(r.Intn(3))
		}
		x[1] |= byte(r.Intn(4))
		b := laid(uint64(1+r.Intn(9)), x)
		n, h, e := head.Get(b)
		if e != api.OK {
			continue
		}
		got++
		if again := put(t, n, h); again != b {
			t.Fatalf("Get(%x) = %d, %v, which is put as %x", b, n, h, again)
		}
	}
	if got < 1000 {
		t.Errorf("only %d blocks were got", got)
	}
}
