package seal_test

import (
	"bytes"
	"encoding/binary"
	"hash/crc32"
	"math"
	"math/rand"
	"testing"

	"cardex/api"
	"cardex/seal"
)

var castagnoli = crc32.MakeTable(crc32.Castagnoli)

// numbers are those at which a byte, or a sign, is full or begins.
func numbers() []uint64 {
	l := []uint64{1, 2, 5, 258, 0x0102030405060708}
	for bits := 8; bits < 64; bits += 8 {
		l = append(l, 1<<bits-1, 1<<bits, 1<<bits+1)
	}
	return append(l, 1<<63-1, 1<<63, math.MaxUint64-1, math.MaxUint64)
}

// some are so many bytes, the same ones each time.
func some(length int) []byte {
	b := make([]byte, length)
	rand.New(rand.NewSource(int64(length))).Read(b)
	return b
}

// filled is a body with 0s behind it.
func filled(body []byte) []byte {
	b := make([]byte, api.MaxBody)
	copy(b, body)
	return b
}

// laid is a block, part for part, whether they fit each other or not.
func laid(number uint64, body []byte, sum uint32, end uint64) (b api.Block) {
	binary.LittleEndian.PutUint64(b[:8], number)
	copy(b[8:116], body)
	binary.LittleEndian.PutUint32(b[116:120], sum)
	binary.LittleEndian.PutUint64(b[120:], end)
	return b
}

// sumOf is the sum of what stands in a block for its number and its body.
func sumOf(b api.Block) uint32 {
	return crc32.Checksum(b[:116], castagnoli)
}

// sealed is a block as the words tell it.
func sealed(number uint64, body []byte) api.Block {
	b := laid(number, body, 0, ^number)
	return laid(number, body, sumOf(b), ^number)
}

// torn is a block whose first bytes are from one, the others from another.
func torn(first, rest api.Block, k int) api.Block {
	copy(rest[:k], first[:k])
	return rest
}

// forge turns bits of the four bytes at a place so that the sum of the first 116 bytes is the one that is wanted.
func forge(b *api.Block, at int, want uint32) {
	var effects, turns [32]uint32 // by the highest place that the effect turns
	before := sumOf(*b)
	for bit := range 32 {
		x := *b
		x[at+bit/8] ^= 1 << (bit % 8)
		effect, turn := sumOf(x)^before, uint32(1)<<bit
		for place := 31; place >= 0 && effect != 0; place-- {
			if effect>>place&1 == 0 {
				continue
			}
			if effects[place] == 0 {
				effects[place], turns[place] = effect, turn
				break
			}
			effect ^= effects[place]
			turn ^= turns[place]
		}
	}
	left, turn := before^want, uint32(0)
	for place := 31; place >= 0; place-- {
		if left>>place&1 == 1 {
			left ^= effects[place]
			turn ^= turns[place]
		}
	}
	for i := range 4 {
		b[at+i] ^= byte(turn >> (8 * i))
	}
}

func put(t *testing.T, number uint64, body []byte) api.Block {
	t.Helper()
	b, e := seal.Put(number, body)
	if e != api.OK {
		t.Fatalf("Put(%d, %x): %v", number, body, e)
	}
	return b
}

func gets(t *testing.T, b api.Block, number uint64, body []byte) {
	t.Helper()
	n, got, e := seal.Get(b)
	if n != number || !bytes.Equal(got, filled(body)) || e != api.OK {
		t.Errorf("Get(%x) = %d, %x, %v, want %d, %x", b, n, got, e, number, filled(body))
	}
}

func refuses(t *testing.T, b api.Block, want api.Errno) {
	t.Helper()
	if n, body, e := seal.Get(b); n != 0 || len(body) != 0 || e != want {
		t.Errorf("Get(%x) = %d, %x, %v, want %v", b, n, body, e, want)
	}
}

func counts(t *testing.T, what string, a, b api.Block, which, next int, e api.Errno) {
	t.Helper()
	if got, err := seal.Newest(a, b); got != which || err != e {
		t.Errorf("%s: Newest = %d, %v, want %d, %v", what, got, err, which, e)
	}
	if got := seal.Next(a, b); got != next {
		t.Errorf("%s: Next = %d, want %d", what, got, next)
	}
}

func TestExamples(t *testing.T) {
	if _, e := seal.Put(0, nil); e != api.ErrArg {
		t.Errorf("Put(0, none): %v", e)
	}
	b := put(t, 5, nil)
	if !bytes.Equal(b[:8], []byte{5, 0, 0, 0, 0, 0, 0, 0}) || !bytes.Equal(b[120:], []byte{0xfa, 0xff, 0xff, 0xff, 0xff, 0xff, 0xff, 0xff}) {
		t.Errorf("Put(5, none) = %x", b)
	}
	refuses(t, api.Block{}, api.ErrForm)
	if _, e := seal.Put(1, make([]byte, 109)); e != api.ErrLimit {
		t.Errorf("Put(1, 109 bytes): %v", e)
	}
	six := put(t, 6, nil)
	counts(t, "5 and 6", b, six, 1, 0, api.OK)
	counts(t, "6 and 5", six, b, 0, 1, api.OK)
	counts(t, "0s", api.Block{}, api.Block{}, 0, 0, api.ErrNone)
}

// P5.1

func TestPut(t *testing.T) {
	for _, number := range numbers() {
		for _, length := range []int{0, 1, 2, 7, 8, 9, 53, 107, 108} {
			body := some(length)
			if got, want := put(t, number, body), sealed(number, body); got != want {
				t.Errorf("Put(%d, %x) = %x, want %x", number, body, got, want)
			}
		}
		full := bytes.Repeat([]byte{0xff}, api.MaxBody)
		if got, want := put(t, number, full), sealed(number, full); got != want {
			t.Errorf("Put(%d, %x) = %x, want %x", number, full, got, want)
		}
	}
}

func TestPutLaysItsPartsOut(t *testing.T) {
	b := put(t, 0x0102030405060708, []byte{7, 8})
	want := api.Block{8, 7, 6, 5, 4, 3, 2, 1, 7, 8}
	copy(want[116:], []byte{byte(sumOf(want)), byte(sumOf(want) >> 8), byte(sumOf(want) >> 16), byte(sumOf(want) >> 24)})
	copy(want[120:], []byte{0xf7, 0xf8, 0xf9, 0xfa, 0xfb, 0xfc, 0xfd, 0xfe})
	if b != want {
		t.Errorf("Put = %x, want %x", b, want)
	}
}

func TestPutNoneIsPutOfNoBytes(t *testing.T) {
	if put(t, 3, nil) != put(t, 3, []byte{}) {
		t.Errorf("nil and no bytes are two blocks")
	}
	if put(t, 3, nil) != put(t, 3, make([]byte, api.MaxBody)) {
		t.Errorf("no bytes and 0s are two blocks")
	}
}

func TestPutRefuses(t *testing.T) {
	for _, c := range []struct {
		number uint64
		length int
		want   api.Errno
	}{
		{0, 0, api.ErrArg},
		{0, 1, api.ErrArg},
		{0, 108, api.ErrArg},
		{0, 109, api.ErrArg}, // the number goes ahead of the limit
		{0, 1000, api.ErrArg},
		{1, 109, api.ErrLimit},
		{1, 110, api.ErrLimit},
		{1, 128, api.ErrLimit},
		{1, 1 << 16, api.ErrLimit},
		{math.MaxUint64, 109, api.ErrLimit},
	} {
		if b, e := seal.Put(c.number, some(c.length)); b != (api.Block{}) || e != c.want {
			t.Errorf("Put(%d, %d bytes) = %x, %v, want %v", c.number, c.length, b, e, c.want)
		}
	}
}

// P5.2

func TestGet(t *testing.T) {
	for _, number := range numbers() {
		for _, length := range []int{0, 1, 53, 107, 108} {
			gets(t, sealed(number, some(length)), number, some(length))
		}
	}
}

func TestGetAsksForANumber(t *testing.T) {
	refuses(t, api.Block{}, api.ErrForm)
	// All but the number is as it is to be.
	refuses(t, sealed(0, nil), api.ErrForm)
	refuses(t, sealed(0, some(108)), api.ErrForm)
	refuses(t, laid(0, some(9), 1, math.MaxUint64), api.ErrForm)
}

func TestGetAsksForTheEnd(t *testing.T) {
	for _, number := range numbers() {
		b := sealed(number, some(9))
		for _, end := range []uint64{number, ^number + 1, ^number - 1, -number, ^number ^ 1<<63, ^number ^ 1} {
			if end != ^number {
				refuses(t, laid(number, some(9), sumOf(b), end), api.ErrForm)
				// The end goes ahead of the sum.
				refuses(t, laid(number, some(9), ^sumOf(b), end), api.ErrForm)
			}
		}
		for bit := range 64 {
			refuses(t, laid(number, some(9), sumOf(b), ^number^1<<bit), api.ErrForm)
			refuses(t, laid(number^1<<bit, some(9), sumOf(b), ^number), api.ErrForm)
		}
	}
}

func TestGetAsksForTheSum(t *testing.T) {
	for _, number := range numbers() {
		body := filled(some(108))
		right := sumOf(sealed(number, body))
		for _, sum := range []uint32{
			0,
			math.MaxUint32,
			^right,
			right + 1,
			right - 1,
			right ^ 1<<31,
			crc32.Checksum(body, castagnoli),
			crc32.ChecksumIEEE(append(binary.LittleEndian.AppendUint64(nil, number), body...)),
			crc32.Checksum(append(body, binary.LittleEndian.AppendUint64(nil, number)...), castagnoli),
		} {
			refuses(t, laid(number, body, sum, ^number), api.ErrSum)
		}
		// A number whose end is its own, but not the sum.
		if other := number ^ 1<<40; other != 0 {
			refuses(t, laid(other, body, right, ^other), api.ErrSum)
		}
	}
}

func TestGetTellsAllOfTheBody(t *testing.T) {
	if _, body, e := seal.Get(sealed(9, []byte{1})); len(body) != api.MaxBody || e != api.OK {
		t.Errorf("Get tells %d bytes, %v", len(body), e)
	}
}

// P5.3

func TestNewestAndNext(t *testing.T) {
	for i, low := range numbers() {
		for _, high := range numbers()[i+1:] {
			a, b := min(low, high), max(low, high)
			counts(t, "the greater one behind", sealed(a, some(5)), sealed(b, some(6)), 1, 0, api.OK)
			counts(t, "the greater one ahead", sealed(b, some(6)), sealed(a, some(5)), 0, 1, api.OK)
		}
		counts(t, "the same", sealed(low, some(5)), sealed(low, some(5)), 0, 1, api.OK)
		counts(t, "the same number", sealed(low, nil), sealed(low, some(5)), 0, 1, api.OK)
		counts(t, "the same number", sealed(low, some(5)), sealed(low, nil), 0, 1, api.OK)
	}
}

func TestNewestGoesByWhatIsSealed(t *testing.T) {
	low, high := sealed(1, some(5)), sealed(math.MaxUint64, some(5))
	others := []api.Block{
		{},
		sealed(0, nil),
		laid(math.MaxUint64, nil, 0, 0),
		laid(math.MaxUint64, some(5), sumOf(high)+1, 0),
		laid(math.MaxUint64, some(5), sumOf(high), 1),
		laid(math.MaxUint64-1, some(6), 7, 1),
		torn(high, low, 8),
		torn(high, low, 127),
	}
	for _, x := range others {
		for _, whole := range []api.Block{low, high} {
			counts(t, "sealed alone, ahead", whole, x, 0, 1, api.OK)
			counts(t, "sealed alone, behind", x, whole, 1, 0, api.OK)
		}
		for _, y := range others {
			counts(t, "none sealed", x, y, 0, 0, api.ErrNone)
		}
	}
}

// P5.4

func TestWhatIsPutIsGot(t *testing.T) {
	for _, number := range numbers() {
		for length := range api.MaxBody + 1 {
			gets(t, put(t, number, some(length)), number, some(length))
		}
	}
}

// bodies are held against each other in what is torn.
func bodies() [][]byte {
	return [][]byte{nil, {1, 2, 3}, {1, 9, 3}, some(108), bytes.Repeat([]byte{0xff}, 108)}
}

func TestBeginningsOverAnotherNumber(t *testing.T) {
	for _, was := range numbers() {
		for _, is := range numbers() {
			if was == is {
				continue
			}
			for i, body := range bodies() {
				other := bodies()[(i+1)%len(bodies())]
				beginnings(t, was, other, is, body)
				beginnings(t, was, body, is, body)
			}
		}
	}
}

// beginnings tears a block over another one at each place.
func beginnings(t *testing.T, was uint64, body []byte, is uint64, next []byte) {
	t.Helper()
	old, now := put(t, was, body), put(t, is, next)
	for k := range api.Size + 1 {
		switch x := torn(now, old, k); x {
		case old:
			gets(t, x, was, body)
		case now:
			gets(t, x, is, next)
		default:
			refuses(t, x, api.ErrForm)
		}
	}
}

func TestBeginningsOver0s(t *testing.T) {
	for _, number := range numbers() {
		for _, body := range bodies() {
			now := put(t, number, body)
			for k := range api.Size + 1 {
				x := torn(now, api.Block{}, k)
				// The end of the greatest number is 0s: it is there ahead of being written.
				if x == now {
					gets(t, x, number, body)
				} else if _, _, e := seal.Get(x); e != api.ErrForm && e != api.ErrSum {
					t.Errorf("Get(%x): %v", x, e)
				}
			}
		}
	}
}

func TestBeginningsWhoseSumHappensToBeRight(t *testing.T) {
	for _, old := range []api.Block{{}, put(t, 257, some(108)), put(t, math.MaxUint64, some(107))} {
		for k := 12; k <= 116; k++ {
			now := laid(258, some(100), 0, 0)
			x := torn(now, old, k)
			forge(&x, 8, binary.LittleEndian.Uint32(old[116:]))
			copy(now[:k], x[:k])
			now = put(t, 258, now[8:116])
			x = torn(now, old, k)
			if sumOf(x) != binary.LittleEndian.Uint32(x[116:]) {
				t.Fatalf("%d: the sum of %x is not right", k, x)
			}
			refuses(t, x, api.ErrForm)
		}
		for k := 120; k < api.Size; k++ {
			x := torn(put(t, 1<<63+258, some(100)), old, k)
			refuses(t, x, api.ErrForm)
		}
	}
}

func TestTornNumbersWhoseSumHappensToBeRight(t *testing.T) {
	for _, was := range numbers() {
		old := put(t, was, some(108))
		x := old
		x[0] ^= 1
		forge(&x, 1, binary.LittleEndian.Uint32(old[116:]))
		if sumOf(x) != binary.LittleEndian.Uint32(x[116:]) || x == old {
			t.Fatalf("the sum of %x is not right", x)
		}
		is := binary.LittleEndian.Uint64(x[:8])
		for k := 5; k <= 8; k++ {
			if torn(put(t, is, nil), old, k) != x {
				t.Fatalf("%d: not what is torn", k)
			}
		}
		refuses(t, x, api.ErrForm)
	}
}

func TestOneByteChanged(t *testing.T) {
	for _, number := range []uint64{1, 258, 1 << 62, math.MaxUint64} {
		for _, body := range bodies() {
			b := put(t, number, body)
			for at := range b {
				want := api.ErrForm
				if at >= 8 && at < 120 {
					want = api.ErrSum
				}
				for by := 1; by < 256; by++ {
					x := b
					x[at] ^= byte(by)
					refuses(t, x, want)
				}
			}
		}
	}
}

// The rules that hold everywhere: answers are new memory, and what is handed in stays as it is.

func TestAnswersShareNothing(t *testing.T) {
	b := put(t, 5, []byte{1, 2, 3})
	_, first, _ := seal.Get(b)
	_, second, _ := seal.Get(b)
	first = first[:cap(first)]
	for i := range first {
		first[i] = 0xee
	}
	if !bytes.Equal(second, filled([]byte{1, 2, 3})) {
		t.Errorf("another answer is %x now", second)
	}
	gets(t, b, 5, []byte{1, 2, 3})
}

func TestArgumentsStay(t *testing.T) {
	room := bytes.Repeat([]byte{7}, 200)
	for _, length := range []int{0, 1, 50, 107, 108, 109, 200} {
		b, e := seal.Put(6, room[:length])
		if !bytes.Equal(room, bytes.Repeat([]byte{7}, 200)) {
			t.Fatalf("what was handed in is %x now", room)
		}
		// The room behind the body's end is no part of it.
		if e == api.OK {
			gets(t, b, 6, room[:length])
		}
	}
	room[0] = 8
	b, _ := seal.Put(6, room[:2])
	room[0] = 9
	gets(t, b, 6, []byte{8, 7})
}
