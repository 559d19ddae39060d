package crc_test

import (
	"bytes"
	"hash/crc32"
	"math"
	"math/rand"
	"testing"

	"cardex/crc"
)

// period is how many bits bring each rest back to itself, so as many bytes do too.
const period = 1<<31 - 1

var castagnoli = crc32.MakeTable(crc32.Castagnoli)

// rests are each bit alone, and others.
func rests() []uint32 {
	l := []uint32{0, 5, 0x82f63b78, 0x7d09c487, 0x12345678, 0xfedcba98, 0x55555555, 0xaaaaaaaa, 0xfffffffe, 0x7fffffff, 0xffffffff}
	for place := range 32 {
		l = append(l, 1<<place)
	}
	return l
}

// rows are bytes of several lengths, the same ones each time.
func rows() [][]byte {
	rising := make([]byte, 256)
	for i := range rising {
		rising[i] = byte(i)
	}
	l := [][]byte{nil, {}, {0}, {1}, {0x80}, {0xff}, []byte("a"), []byte("123456789"), make([]byte, 32), bytes.Repeat([]byte{0xff}, 32), rising}
	some := rand.New(rand.NewSource(3))
	for _, length := range []int{2, 3, 4, 5, 7, 8, 31, 33, 100} {
		b := make([]byte, length)
		some.Read(b)
		l = append(l, b)
	}
	return l
}

// onByBits moves a rest on by bytes, bit for bit, as the words tell it.
func onByBits(rest uint32, n int) uint32 {
	for range 8 * n {
		gone := rest & 1
		rest >>= 1
		if gone == 1 {
			rest ^= 0x82f63b78
		}
	}
	return rest
}

// P3.1

func TestOn(t *testing.T) {
	for _, c := range []struct {
		rest uint32
		n    int
		want uint32
	}{
		{1, 0, 1},
		{0x80, 1, 0x82f63b78}, // the bit goes last of all, so nothing is moved behind its turns
		{0x8000, 2, 0x82f63b78},
		{1 << 31, 1, 1 << 23},
		{1 << 31, 3, 1 << 7},
		{0, 1, 0},
		{0, 1000, 0},
		{0, math.MaxInt, 0},
	} {
		if got := crc.On(c.rest, c.n); got != c.want {
			t.Errorf("On(%x, %d) = %x, not %x", c.rest, c.n, got, c.want)
		}
	}
	for _, rest := range rests() {
		want := rest
		for n := range 300 {
			if got := crc.On(rest, n); got != want {
				t.Fatalf("On(%x, %d) = %x, not %x", rest, n, got, want)
			}
			want = onByBits(want, 1)
		}
	}
}

func TestOnBelowNone(t *testing.T) {
	for _, rest := range rests() {
		for _, n := range []int{0, -1, -2, -7, -8, -1 << 31, math.MinInt + 1, math.MinInt} {
			if got := crc.On(rest, n); got != rest {
				t.Errorf("On(%x, %d) = %x", rest, n, got)
			}
		}
	}
}

func TestOnFar(t *testing.T) {
	for _, rest := range rests() {
		for _, n := range []int{1 << 16, 1<<16 + 1, 99999} {
			if got, want := crc.On(rest, n), onByBits(rest, n); got != want {
				t.Errorf("On(%x, %d) = %x, not %x", rest, n, got, want)
			}
		}
		for _, n := range []int{period, period + 1, 2 * period, 5*period + 77, math.MaxInt - 1, math.MaxInt} {
			if got, want := crc.On(rest, n), onByBits(rest, n%period); got != want {
				t.Errorf("On(%x, %d) = %x, not %x", rest, n, got, want)
			}
		}
	}
}

func TestInto(t *testing.T) {
	if got := crc.Into(0, 128); got != 0x82f63b78 {
		t.Errorf("Into(0, 128) = %x", got)
	}
	for _, rest := range rests() {
		for c := range 256 {
			if got, want := crc.Into(rest, byte(c)), onByBits(rest^uint32(c), 1); got != want {
				t.Errorf("Into(%x, %x) = %x, not %x", rest, c, got, want)
			}
		}
	}
}

func TestOf(t *testing.T) {
	for _, c := range []struct {
		b    []byte
		want uint32
	}{
		{nil, 0},
		{[]byte{}, 0},
		{[]byte("123456789"), 0xe3069283},
		{make([]byte, 32), 0x8a9136aa},
		{bytes.Repeat([]byte{0xff}, 32), 0x62a8ab43},
		{[]byte("a"), 0xc1d04330},
	} {
		if got := crc.Of(c.b); got != c.want {
			t.Errorf("Of(%x) = %x, not %x", c.b, got, c.want)
		}
	}
	for _, b := range rows() {
		if got, want := crc.Of(b), crc32.Checksum(b, castagnoli); got != want {
			t.Errorf("Of(%x) = %x, not %x", b, got, want)
		}
	}
}

// What goes into a rest of ones, the first byte first, is the sum when each place is turned.
func TestOfIsInto(t *testing.T) {
	for _, b := range rows() {
		rest := uint32(0xffffffff)
		for _, c := range b {
			rest = crc.Into(rest, c)
		}
		if got := crc.Of(b); got != ^rest {
			t.Errorf("Of(%x) = %x, not %x", b, got, ^rest)
		}
	}
}

func TestMore(t *testing.T) {
	for _, b := range rows() {
		for end := range len(b) + 1 {
			if got, want := crc.More(crc.Of(b[:end]), b[end:]), crc.Of(b); got != want {
				t.Errorf("More(%x, %x) = %x, not %x", b[:end], b[end:], got, want)
			}
		}
		for _, sum := range rests() {
			if got, want := crc.More(sum, b), crc32.Update(sum, castagnoli, b); got != want {
				t.Errorf("More(%x, %x) = %x, not %x", sum, b, got, want)
			}
		}
	}
	for _, sum := range rests() {
		if a, b := crc.More(sum, nil), crc.More(sum, []byte{}); a != sum || b != sum {
			t.Errorf("More(%x) of nothing = %x, %x", sum, a, b)
		}
	}
}

// P3.2

func TestJoin(t *testing.T) {
	if got := crc.Join(crc.Of([]byte("1234")), crc.Of([]byte("56789")), 5); got != 0xe3069283 {
		t.Errorf("Join = %x", got)
	}
	for _, a := range rests() {
		for _, b := range rests() {
			for _, n := range []int{0, 1, 2, 5, 300} {
				if got, want := crc.Join(a, b, n), onByBits(a, n)^b; got != want {
					t.Errorf("Join(%x, %x, %d) = %x, not %x", a, b, n, got, want)
				}
			}
			for _, n := range []int{-1, -8, math.MinInt} {
				if got := crc.Join(a, b, n); got != a^b {
					t.Errorf("Join(%x, %x, %d) = %x, not %x", a, b, n, got, a^b)
				}
			}
			if got, want := crc.Join(a, b, math.MaxInt), onByBits(a, math.MaxInt%period)^b; got != want {
				t.Errorf("Join(%x, %x, most) = %x, not %x", a, b, got, want)
			}
		}
	}
}

// P3.3

func TestJoinTellsTheSumOfTwo(t *testing.T) {
	for _, a := range rows() {
		for _, b := range rows() {
			whole := append(bytes.Clone(a), b...)
			if got, want := crc.Join(crc.Of(a), crc.Of(b), len(b)), crc.Of(whole); got != want {
				t.Errorf("Join(%x, %x) = %x, not %x", a, b, got, want)
			}
		}
	}
}

func TestOnAndOn(t *testing.T) {
	for _, rest := range rests() {
		for a := range 20 {
			for b := range 20 {
				if got, want := crc.On(crc.On(rest, a), b), crc.On(rest, a+b); got != want {
					t.Errorf("On(On(%x, %d), %d) = %x, not %x", rest, a, b, got, want)
				}
			}
		}
		for _, c := range [][2]int{{1 << 29, 1 << 29}, {1 << 29, 3}, {1<<40 + 5, 1<<41 + 7}, {math.MaxInt - 9, 9}} {
			if got, want := crc.On(crc.On(rest, c[0]), c[1]), crc.On(rest, c[0]+c[1]); got != want {
				t.Errorf("On(On(%x, %d), %d) = %x, not %x", rest, c[0], c[1], got, want)
			}
		}
	}
}

func TestFourBytesSideBySide(t *testing.T) {
	some := rand.New(rand.NewSource(4))
	for _, b := range rows() {
		sum := crc.Of(b)
		other := bytes.Clone(b)
		for at := range b {
			piece := other[at:min(at+4, len(b))]
			for range 200 {
				for i := range piece {
					piece[i] = byte(some.Intn(256))
				}
				if !bytes.Equal(other, b) && crc.Of(other) == sum {
					t.Fatalf("%x and %x have one sum", b, other)
				}
			}
			copy(piece, b[at:])
			for by := 1; by < 256; by++ {
				piece[0] ^= byte(by)
				if crc.Of(other) == sum {
					t.Fatalf("%x and %x have one sum", b, other)
				}
				piece[0] ^= byte(by)
			}
		}
	}
}

// The rules that hold everywhere: what is handed in stays as it is, and what stands behind its end is none of it.

func TestArgumentsStay(t *testing.T) {
	for _, b := range rows() {
		room := append(bytes.Clone(b), 0xaa, 0xbb, 0xcc)
		before := bytes.Clone(room)
		if got := crc.Of(room[:len(b)]); got != crc.Of(b) {
			t.Errorf("Of(%x) = %x, ahead of other bytes", b, got)
		}
		if got := crc.More(7, room[:len(b)]); got != crc.More(7, b) {
			t.Errorf("More(7, %x) = %x, ahead of other bytes", b, got)
		}
		if !bytes.Equal(room, before) {
			t.Errorf("what was handed in is %x now, and was %x", room, before)
		}
	}
}
