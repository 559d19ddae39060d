package num_test

import (
	"bytes"
	"math"
	"testing"

	"cardex/api"
	"cardex/num"
)

var sizes = []int{1, 2, 4, 8}

// wrongSizes has, beside sizes near the right ones, some whose product with 8 is no int, or 0 as one.
var wrongSizes = []int{math.MinInt, -8, -4, -1, 0, 3, 5, 6, 7, 9, 16, 32, 64, 256, math.MaxInt/8 + 1, math.MaxInt}

// edges are the numbers at which one more byte, or one more group of seven bits, begins, and those beside them.
func edges() []uint64 {
	l := []uint64{0, math.MaxUint64}
	for shift := 1; shift < 64; shift++ {
		n := uint64(1) << shift
		l = append(l, n-1, n, n+1, n/3)
	}
	return append(l, 0x0807060504030201, 0xf1e2d3c4b5a69788)
}

func isOf(n uint64, size int) bool {
	return size == 8 || n < 1<<(8*size)
}

func ones(count int) []byte {
	return bytes.Repeat([]byte{0xff}, count)
}

// P1.1

func TestPut(t *testing.T) {
	for _, c := range []struct {
		n    uint64
		size int
		want []byte
		e    api.Errno
	}{
		{258, 2, []byte{2, 1}, api.OK},
		{0, 1, []byte{0}, api.OK},
		{0, 8, make([]byte, 8), api.OK},
		{255, 1, []byte{255}, api.OK},
		{256, 1, nil, api.ErrArg},
		{1<<16 - 1, 2, ones(2), api.OK},
		{1 << 16, 2, nil, api.ErrArg},
		{0x04030201, 4, []byte{1, 2, 3, 4}, api.OK},
		{1<<32 - 1, 4, ones(4), api.OK},
		{1 << 32, 4, nil, api.ErrArg},
		{0x0807060504030201, 8, []byte{1, 2, 3, 4, 5, 6, 7, 8}, api.OK},
		{math.MaxUint64, 8, ones(8), api.OK},
		{math.MaxUint64, 1, nil, api.ErrArg},
		{math.MaxUint64, 2, nil, api.ErrArg},
		{math.MaxUint64, 4, nil, api.ErrArg},
	} {
		b, e := num.Put(c.n, c.size)
		if !bytes.Equal(b, c.want) || e != c.e {
			t.Errorf("Put(%d, %d) = %x, %v", c.n, c.size, b, e)
		}
	}
}

func TestPutRefusesNumbersOfNoSize(t *testing.T) {
	for _, n := range edges() {
		for _, size := range sizes {
			b, e := num.Put(n, size)
			if isOf(n, size) && (len(b) != size || e != api.OK) {
				t.Errorf("Put(%d, %d) = %x, %v", n, size, b, e)
			}
			if !isOf(n, size) && (len(b) != 0 || e != api.ErrArg) {
				t.Errorf("Put(%d, %d) = %x, %v", n, size, b, e)
			}
		}
		for _, size := range wrongSizes {
			if b, e := num.Put(n, size); len(b) != 0 || e != api.ErrArg {
				t.Errorf("Put(%d, %d) = %x, %v", n, size, b, e)
			}
		}
	}
}

func TestGet(t *testing.T) {
	long := []byte{1, 2, 3, 4, 5, 6, 7, 8, 9}
	for _, c := range []struct {
		b        []byte
		at, size int
		want     uint64
		e        api.Errno
	}{
		{[]byte{2, 1, 5}, 0, 2, 258, api.OK},
		{[]byte{2, 1, 5}, 1, 2, 0x0501, api.OK},
		{[]byte{2, 1, 5}, 2, 1, 5, api.OK},
		{[]byte{2, 1, 5}, 2, 2, 0, api.ErrShort},
		{[]byte{2, 1, 5}, 3, 1, 0, api.ErrShort},
		{[]byte{2, 1, 5}, 4, 1, 0, api.ErrArg},
		{[]byte{2, 1, 5}, -1, 1, 0, api.ErrArg},
		{[]byte{2, 1, 5}, math.MaxInt, 8, 0, api.ErrArg},
		{[]byte{2, 1, 5}, math.MinInt, 8, 0, api.ErrArg},
		{[]byte{2, 1, 5}, 3, 3, 0, api.ErrArg},
		{nil, 0, 1, 0, api.ErrShort},
		{nil, 0, 0, 0, api.ErrArg},
		{nil, 1, 1, 0, api.ErrArg},
		{long, 0, 4, 0x04030201, api.OK},
		{long, 5, 4, 0x09080706, api.OK},
		{long, 6, 4, 0, api.ErrShort},
		{long, 0, 8, 0x0807060504030201, api.OK},
		{long, 1, 8, 0x0908070605040302, api.OK},
		{long, 2, 8, 0, api.ErrShort},
		{ones(8), 0, 8, math.MaxUint64, api.OK},
		{ones(4), 0, 4, math.MaxUint32, api.OK},
	} {
		n, e := num.Get(c.b, c.at, c.size)
		if n != c.want || e != c.e {
			t.Errorf("Get(%x, %d, %d) = %d, %v", c.b, c.at, c.size, n, e)
		}
	}
}

func TestGetRefusesOtherSizes(t *testing.T) {
	b := make([]byte, 300)
	for _, size := range wrongSizes {
		for _, at := range []int{-1, 0, 1, 300, 301} {
			if n, e := num.Get(b, at, size); n != 0 || e != api.ErrArg {
				t.Errorf("Get(b, %d, %d) = %d, %v", at, size, n, e)
			}
		}
	}
}

// What stands behind the end of b, in its room, is none of its bytes.
func TestGetStopsAtTheEnd(t *testing.T) {
	room := []byte{1, 0, 0, 0, 9, 9, 9, 9}
	if n, e := num.Get(room[:3], 0, 4); n != 0 || e != api.ErrShort {
		t.Errorf("Get = %d, %v", n, e)
	}
	if row, next, e := num.GetRow(room[:4], 0, 5); len(row) != 0 || next != 0 || e != api.ErrShort {
		t.Errorf("GetRow = %x, %d, %v", row, next, e)
	}
	if n, next, e := num.GetMark([]byte{0x81, 1}[:1], 0); n != 0 || next != 0 || e != api.ErrShort {
		t.Errorf("GetMark = %d, %d, %v", n, next, e)
	}
}

// P1.2

func TestRow(t *testing.T) {
	for _, c := range []struct{ b, want []byte }{
		{nil, []byte{0, 0, 0, 0}},
		{[]byte{}, []byte{0, 0, 0, 0}},
		{[]byte{7}, []byte{1, 0, 0, 0, 7}},
		{[]byte{0, 0}, []byte{2, 0, 0, 0, 0, 0}},
		{ones(256), append([]byte{0, 1, 0, 0}, ones(256)...)},
		{ones(1<<16 + 3), append([]byte{3, 0, 1, 0}, ones(1<<16+3)...)},
	} {
		if b := num.Row(c.b); !bytes.Equal(b, c.want) {
			t.Errorf("Row of %d bytes: %d bytes, or others", len(c.b), len(b))
		}
	}
}

func TestGetRow(t *testing.T) {
	for _, c := range []struct {
		b        []byte
		at, most int
		want     []byte
		next     int
		e        api.Errno
	}{
		{[]byte{1, 0, 0, 0, 9, 8}, 0, 5, []byte{9}, 5, api.OK},
		{[]byte{7, 1, 0, 0, 0, 9, 8}, 1, 1, []byte{9}, 6, api.OK},
		{[]byte{2, 0, 0, 0, 9, 8}, 0, 2, []byte{9, 8}, 6, api.OK},
		{[]byte{2, 0, 0, 0, 9, 8}, 0, math.MaxInt, []byte{9, 8}, 6, api.OK},
		{[]byte{0, 0, 0, 0}, 0, 0, nil, 4, api.OK},
		{[]byte{5, 0, 0, 0, 0}, 1, 5, nil, 5, api.OK},
		{[]byte{1, 0, 0, 0, 9}, 0, 0, nil, 0, api.ErrLimit},
		{[]byte{2, 0, 0, 0, 9, 8}, 0, 1, nil, 0, api.ErrLimit},
		{[]byte{0, 0, 0, 0}, 0, -1, nil, 0, api.ErrLimit},
		{[]byte{0, 0, 0, 0}, 0, math.MinInt, nil, 0, api.ErrLimit},
		{[]byte{2, 0, 0, 0, 9}, 0, 2, nil, 0, api.ErrShort},
		{[]byte{2, 0, 0, 0, 9}, 0, 1, nil, 0, api.ErrLimit}, // too many, and too few: the limit first
		{[]byte{1, 0, 0, 0}, 0, 1, nil, 0, api.ErrShort},
		{[]byte{0, 0, 0}, 0, 5, nil, 0, api.ErrShort},
		{[]byte{0, 0, 0}, 0, -1, nil, 0, api.ErrShort}, // no length there: ahead of the limit
		{[]byte{0, 0, 0, 0}, 4, 5, nil, 0, api.ErrShort},
		{[]byte{0, 0, 0, 0}, 5, 5, nil, 0, api.ErrArg},
		{[]byte{0, 0, 0, 0}, -1, 5, nil, 0, api.ErrArg},
		{[]byte{0, 0, 0, 0}, math.MaxInt, -1, nil, 0, api.ErrArg},
		{[]byte{0, 0, 0, 0}, math.MinInt, -1, nil, 0, api.ErrArg},
		{nil, 0, 5, nil, 0, api.ErrShort},
		{nil, 1, 5, nil, 0, api.ErrArg},
		{append(ones(4), 1, 2, 3), 0, 7, nil, 0, api.ErrLimit},
		{append(ones(4), 1, 2, 3), 0, math.MaxInt32, nil, 0, api.ErrLimit},
		{append([]byte{255, 255, 255, 127}, 1, 2, 3), 0, math.MaxInt32, nil, 0, api.ErrShort},
		{append([]byte{0, 0, 0, 128}, 1, 2, 3), 0, math.MaxInt32, nil, 0, api.ErrLimit},
	} {
		row, next, e := num.GetRow(c.b, c.at, c.most)
		if !bytes.Equal(row, c.want) || next != c.next || e != c.e {
			t.Errorf("GetRow(%x, %d, %d) = %x, %d, %v", c.b, c.at, c.most, row, next, e)
		}
	}
}

// P1.3

func TestMark(t *testing.T) {
	for _, c := range []struct {
		n    uint32
		want []byte
	}{
		{0, []byte{0}},
		{1, []byte{1}},
		{127, []byte{0x7f}},
		{128, []byte{0x81, 0}},
		{129, []byte{0x81, 1}},
		{300, []byte{0x82, 0x2c}},
		{1<<14 - 1, []byte{0xff, 0x7f}},
		{1 << 14, []byte{0x81, 0x80, 0}},
		{1<<21 - 1, []byte{0xff, 0xff, 0x7f}},
		{1 << 21, []byte{0x81, 0x80, 0x80, 0}},
		{1<<28 - 1, []byte{0xff, 0xff, 0xff, 0x7f}},
		{1 << 28, []byte{0x81, 0x80, 0x80, 0x80, 0}},
		{1<<32 - 1, []byte{0x8f, 0xff, 0xff, 0xff, 0x7f}},
	} {
		if b := num.Mark(c.n); !bytes.Equal(b, c.want) {
			t.Errorf("Mark(%d) = %x", c.n, b)
		}
	}
}

func TestGetMark(t *testing.T) {
	for _, c := range []struct {
		b    []byte
		at   int
		n    uint32
		next int
		e    api.Errno
	}{
		{[]byte{0x81, 0}, 0, 128, 2, api.OK},
		{[]byte{0x81, 0}, 1, 0, 2, api.OK},
		{[]byte{0x7f, 0x7f}, 0, 127, 1, api.OK},
		{[]byte{0x81, 0x80, 0x80, 0x80, 0x05, 0x09}, 0, 1<<28 + 5, 5, api.OK},
		{[]byte{0x8f, 0xff, 0xff, 0xff, 0x7f}, 0, math.MaxUint32, 5, api.OK},
		{[]byte{0x80}, 0, 0, 0, api.ErrForm},
		{[]byte{0x80, 1}, 0, 0, 0, api.ErrForm},
		{[]byte{0x80, 0x80, 0}, 0, 0, 0, api.ErrForm},
		{[]byte{5, 0x80, 1}, 1, 0, 0, api.ErrForm},
		{[]byte{0x81, 0x80, 1}, 0, 1<<14 + 1, 3, api.OK}, // 128 behind the first one may be
		{[]byte{0x81}, 0, 0, 0, api.ErrShort},
		{[]byte{0xff, 0xff, 0xff, 0xff}, 0, 0, 0, api.ErrShort},
		{[]byte{0x8f, 0xff, 0xff, 0xff, 0xff}, 0, 0, 0, api.ErrShort}, // still below 2^32
		{[]byte{0x8f, 0xff, 0xff, 0xff, 0xff, 0}, 0, 0, 0, api.ErrForm},
		{[]byte{0x90, 0x80, 0x80, 0x80}, 0, 0, 0, api.ErrShort},
		{[]byte{0x90, 0x80, 0x80, 0x80, 0}, 0, 0, 0, api.ErrForm},
		{[]byte{0x90, 0x80, 0x80, 0x80, 0x80}, 0, 0, 0, api.ErrForm}, // 2^32 has come to be, ahead of what lacks
		{[]byte{0xff, 0xff, 0xff, 0xff, 0x7f}, 0, 0, 0, api.ErrForm},
		{ones(100), 0, 0, 0, api.ErrForm},
		// Groups behind these would shift what is above 2^32 out of 64 bits.
		{[]byte{0x82, 0x80, 0x80, 0x80, 0x80, 0x80, 0x80, 0x80, 0x80, 0x80, 0x80, 1}, 0, 0, 0, api.ErrForm},
		{nil, 0, 0, 0, api.ErrShort},
		{[]byte{1}, 1, 0, 0, api.ErrShort},
		{[]byte{1}, 2, 0, 0, api.ErrArg},
		{[]byte{1}, -1, 0, 0, api.ErrArg},
		{[]byte{1}, math.MaxInt, 0, 0, api.ErrArg},
		{[]byte{1}, math.MinInt, 0, 0, api.ErrArg},
		{nil, 1, 0, 0, api.ErrArg},
	} {
		n, next, e := num.GetMark(c.b, c.at)
		if n != c.n || next != c.next || e != c.e {
			t.Errorf("GetMark(%x, %d) = %d, %d, %v", c.b, c.at, n, next, e)
		}
	}
}

// P1.4

func TestWhatIsPutIsGot(t *testing.T) {
	for _, n := range edges() {
		for _, size := range sizes {
			b, e := num.Put(n, size)
			if e != api.OK {
				continue
			}
			for ahead := range 3 {
				for behind := range 3 {
					whole := append(append(ones(ahead), b...), ones(behind)...)
					if got, e := num.Get(whole, ahead, size); got != n || e != api.OK {
						t.Errorf("Get(%x, %d, %d) = %d, %v, not %d", whole, ahead, size, got, e, n)
					}
				}
			}
		}
	}
}

func TestWhatIsARowIsGot(t *testing.T) {
	for _, length := range []int{0, 1, 2, 127, 128, 255, 256, 257, 1<<16 - 1, 1 << 16} {
		b := bytes.Repeat([]byte{0, 1, 255}, length/3+1)[:length]
		for ahead := range 3 {
			for behind := range 3 {
				whole := append(append(ones(ahead), num.Row(b)...), ones(behind)...)
				row, next, e := num.GetRow(whole, ahead, length)
				if !bytes.Equal(row, b) || next != len(whole)-behind || e != api.OK {
					t.Errorf("GetRow of %d bytes at %d: %d, %d, %v", length, ahead, len(row), next, e)
				}
			}
		}
	}
}

func TestWhatIsMarkedIsGot(t *testing.T) {
	for _, edge := range edges() {
		n := uint32(edge)
		for ahead := range 3 {
			for behind := range 3 {
				whole := append(append(ones(ahead), num.Mark(n)...), ones(behind)...)
				got, next, e := num.GetMark(whole, ahead)
				if got != n || next != len(whole)-behind || e != api.OK {
					t.Errorf("GetMark(%x, %d) = %d, %d, %v, not %d", whole, ahead, got, next, e, n)
				}
			}
		}
	}
}

// Of all bytes up to a length those that are taken as a whole are the number's only mark, and no piece of them is one.
func TestANumberHasOneMark(t *testing.T) {
	seen := map[uint32]bool{}
	for length := 1; length <= 2; length++ {
		for i := range 1 << (8 * length) {
			b := []byte{byte(i), byte(i >> 8)}[:length]
			n, next, e := num.GetMark(b, 0)
			if e != api.OK || next != length {
				continue
			}
			if seen[n] || !bytes.Equal(num.Mark(n), b) {
				t.Errorf("%x is a mark of %d, as %x is", b, n, num.Mark(n))
			}
			seen[n] = true
		}
	}
	if len(seen) != 1<<14 {
		t.Errorf("%d numbers have a mark of at most 2 bytes", len(seen))
	}
}

func TestNoMarkBeginsAnother(t *testing.T) {
	for _, edge := range edges() {
		mark := num.Mark(uint32(edge))
		for end := range mark {
			if n, next, e := num.GetMark(mark[:end], 0); n != 0 || next != 0 || e != api.ErrShort {
				t.Errorf("GetMark(%x) = %d, %d, %v: the beginning of %x", mark[:end], n, next, e, mark)
			}
		}
	}
}

// The rules that hold everywhere: answers are new memory, and what is handed in stays as it is.

func TestAnswersShareNothing(t *testing.T) {
	room := []byte{9, 1, 0, 0, 0, 7, 5, 5, 5, 5, 5, 5, 5, 5, 5, 5}
	before := bytes.Clone(room)
	b := room[:7]
	row, _, _ := num.GetRow(b, 1, 1)
	spoil(row)
	spoil(num.Row(b[5:6]))
	if !bytes.Equal(room, before) {
		t.Errorf("what was handed in is %x now", room)
	}
	first, _ := num.Put(7, 4)
	spoil(first)
	second, _ := num.Put(7, 4)
	if !bytes.Equal(second, []byte{7, 0, 0, 0}) {
		t.Errorf("Put(7, 4) = %x behind another one", second)
	}
	spoil(num.Mark(300))
	if again := num.Mark(300); !bytes.Equal(again, []byte{0x82, 0x2c}) {
		t.Errorf("Mark(300) = %x behind another one", again)
	}
}

// spoil writes over all that an answer's owner could reach.
func spoil(b []byte) {
	b = b[:cap(b)]
	for i := range b {
		b[i] = 0xee
	}
}

func TestArgumentsStay(t *testing.T) {
	for at := -2; at < 12; at++ {
		room := []byte{0x81, 0, 0, 0, 7, 1, 0, 0, 0, 9, 0xaa, 0xaa}
		before := bytes.Clone(room)
		b := room[:10]
		num.Get(b, at, 4)
		num.GetRow(b, at, 4)
		num.GetMark(b, at)
		num.Row(b)
		if !bytes.Equal(room, before) {
			t.Errorf("at %d: what was handed in is %x now", at, room)
		}
	}
}
