package utf_test

import (
	"bytes"
	"math"
	"slices"
	"strings"
	"testing"
	"unicode/utf8"

	"cardex/api"
	"cardex/utf"
)

const lastRune = 0x10ffff

// edges are the runes at which one more byte begins, or runes end, and those beside them.
var edges = []rune{1, 2, 'A', 0x7e, 0x7f, 0x80, 0x81, 0xe4, 0x7fe, 0x7ff, 0x800, 0x801, 0xfff, 0x1000, 0x20ac, 0xd7fe, 0xd7ff, 0xe000, 0xe001, 0xfeff, 0xfffd, 0xfffe, 0xffff, 0x10000, 0x10001, 0x1f600, 0x3ffff, 0x40000, 0xfffff, 0x100000, 0x10fffe, 0x10ffff}

// wrong are bytes that begin with no rune's.
var wrong = []string{
	"\x00", "\x00a", // 0 is no rune
	"\x80", "\x80\x80", "\xbf", "\xbfa", // what follows only
	"\xc0\x80", "\xc0\xaf", "\xc1\x80", "\xc1\xbf", // two bytes for one
	"\xe0\x80\x80", "\xe0\x80\xaf", "\xe0\x9f\xbf", // three for two
	"\xf0\x80\x80\x80", "\xf0\x80\x80\xaf", "\xf0\x8f\xbf\xbf", // four for three
	"\xed\xa0\x80", "\xed\xaf\xbf", "\xed\xb0\x80", "\xed\xbf\xbf", "\xed\xa0\x80\xed\xb0\x80", // d800 to dfff
	"\xf4\x90\x80\x80", "\xf4\xbf\xbf\xbf", "\xf5\x80\x80\x80", "\xf7\xbf\xbf\xbf", // above 10ffff
	"\xf8\x88\x80\x80\x80", "\xfb\xbf\xbf\xbf\xbf", "\xfc\x84\x80\x80\x80\x80", "\xfd\xbf\xbf\xbf\xbf\xbf", "\xfe", "\xff", "\xff\xff\xff\xff",
	"\xc3", "\xe2", "\xe2\x82", "\xf0", "\xf0\x9f", "\xf0\x9f\x98", // too few
	"\xc3A", "\xc3\xc3", "\xc3\x00", "\xe2A\xac", "\xe2\x82A", "\xe2\x82\xe2", "\xf0A\x98\x80", "\xf0\x9fA\x80", "\xf0\x9f\x98A", "\xf0\x9f\x98\xf0", // another one's
	"\xc3\x7f", "\xc3\xc0", "\xe2\x82\x7f", "\xe2\x82\xc0", "\xf0\x9f\x98\x7f", "\xf0\x9f\x98\xc0",
}

func isRune(r rune) bool {
	return r != 0 && utf8.ValidRune(r)
}

func ofRune(r rune) []byte {
	return utf8.AppendRune(nil, r)
}

// texts are pieces of all sizes, alone and behind each other.
func texts() []string {
	l := []string{"", "abc", "ä€", "€ä", "😀a😀", "aä€😀€äa", strings.Repeat("é", 100)}
	var all strings.Builder
	for _, r := range edges {
		l = append(l, string(r), "x"+string(r), string(r)+"x")
		all.WriteRune(r)
	}
	return append(l, all.String())
}

// P2.1

func TestRune(t *testing.T) {
	for _, c := range []struct {
		b    string
		r    rune
		size int
	}{
		{"\x41\x42", 0x41, 1},
		{"\xc3\xa4", 0xe4, 2},
		{"\xc3\xa4\xc3", 0xe4, 2},
		{"\xe2\x82\xac", 0x20ac, 3},
		{"\xe2\x82\xac\xff", 0x20ac, 3},
		{"\xf0\x9f\x98\x80", 0x1f600, 4},
		{"\xf0\x9f\x98\x80\x80", 0x1f600, 4},
		{"\x01", 1, 1},
		{"\x7f", 0x7f, 1},
		{"\xc2\x80", 0x80, 2},
		{"\xdf\xbf", 0x7ff, 2},
		{"\xe0\xa0\x80", 0x800, 3},
		{"\xed\x9f\xbf", 0xd7ff, 3},
		{"\xee\x80\x80", 0xe000, 3},
		{"\xef\xbf\xbd", 0xfffd, 3}, // a rune like others, though some use it to tell what is none
		{"\xef\xbf\xbf", 0xffff, 3},
		{"\xf0\x90\x80\x80", 0x10000, 4},
		{"\xf4\x8f\xbf\xbf", 0x10ffff, 4},
		{"", 0, 0},
	} {
		if r, size := utf.Rune([]byte(c.b)); r != c.r || size != c.size {
			t.Errorf("Rune(%x) = %x, %d", c.b, r, size)
		}
	}
	if r, size := utf.Rune(nil); r != 0 || size != 0 {
		t.Errorf("Rune(nil) = %x, %d", r, size)
	}
}

func TestRuneRefuses(t *testing.T) {
	for _, s := range wrong {
		if r, size := utf.Rune([]byte(s)); r != 0 || size != 0 {
			t.Errorf("Rune(%x) = %x, %d", s, r, size)
		}
	}
}

func TestRuneOfEveryRune(t *testing.T) {
	for want := rune(1); want <= lastRune; want++ {
		if !isRune(want) {
			continue
		}
		b := ofRune(want)
		if r, size := utf.Rune(b); r != want || size != len(b) {
			t.Fatalf("Rune(%x) = %x, %d, not %x, %d", b, r, size, want, len(b))
		}
		if r, size := utf.Rune(b[:len(b)-1]); r != 0 || size != 0 {
			t.Fatalf("Rune(%x) = %x, %d: the beginning of %x", b[:len(b)-1], r, size, b)
		}
	}
}

// All first and second bytes, and behind them those at which something begins or ends: each is a rune's or none's.
func TestRuneOfAllBytes(t *testing.T) {
	behind := []byte{0, 1, 0x41, 0x7f, 0x80, 0x81, 0x8f, 0x90, 0x9f, 0xa0, 0xbe, 0xbf, 0xc0, 0xc2, 0xe0, 0xed, 0xf4, 0xff}
	for first := range 256 {
		for second := range 256 {
			for _, third := range behind {
				for _, fourth := range behind {
					whole := []byte{byte(first), byte(second), third, fourth}
					for length := 1; length <= 4; length++ {
						checkRune(t, whole[:length])
					}
				}
			}
		}
	}
}

func checkRune(t *testing.T, b []byte) {
	want, length := utf8.DecodeRune(b)
	if want == 0 || want == utf8.RuneError && length == 1 {
		want, length = 0, 0
	}
	if r, size := utf.Rune(b); r != want || size != length {
		t.Fatalf("Rune(%x) = %x, %d, not %x, %d", b, r, size, want, length)
	}
}

// What stands behind the end of b, in its room, is none of its bytes.
func TestRuneStopsAtTheEnd(t *testing.T) {
	for _, r := range edges {
		room := append(ofRune(r), "\x80\x80\x80"...)
		for end := range ofRune(r) {
			if got, size := utf.Rune(room[:end]); got != 0 || size != 0 {
				t.Errorf("Rune(%x) = %x, %d, ahead of %x", room[:end], got, size, room[end:])
			}
		}
	}
}

func TestIs(t *testing.T) {
	if !utf.Is(nil) || !utf.Is([]byte{}) {
		t.Error("no bytes are a text")
	}
	for _, s := range texts() {
		if !utf.Is([]byte(s)) {
			t.Errorf("Is(%x) = false", s)
		}
	}
	for _, s := range wrong {
		for _, ahead := range texts() {
			for _, behind := range []string{"", "a", "ä€"} {
				if utf.Is([]byte(ahead + s + behind)) {
					t.Errorf("Is(%x) = true: %x behind %x", ahead+s+behind, s, ahead)
				}
			}
		}
	}
}

// P2.2

func TestCheck(t *testing.T) {
	for _, c := range []struct {
		s    string
		most int
		e    api.Errno
	}{
		{"abc", 2, api.ErrLimit},
		{"abc", 3, api.OK},
		{"abc", 4, api.OK},
		{"abc", math.MaxInt, api.OK},
		{"abc", 0, api.ErrLimit},
		{"abc", -1, api.ErrLimit},
		{"abc", math.MinInt, api.ErrLimit},
		{"", 0, api.OK},
		{"", math.MaxInt, api.OK},
		{"", -1, api.ErrLimit},
		{"", math.MinInt, api.ErrLimit},
		{"ä€", 4, api.ErrLimit}, // bytes are counted, not runes
		{"ä€", 5, api.OK},
		{"\xff", 1, api.ErrText},
		{"\xff\xff", 1, api.ErrLimit}, // too many, and no text: the limit first
		{"a\x00", 2, api.ErrText},
		{"a\x00", 1, api.ErrLimit},
		{"ä€\xe2\x82", 7, api.ErrText},
	} {
		if e := utf.Check(c.s, c.most); e != c.e {
			t.Errorf("Check(%x, %d) = %v", c.s, c.most, e)
		}
	}
	for _, s := range wrong {
		if e := utf.Check("ab"+s, len(s)+2); e != api.ErrText {
			t.Errorf("Check(%x) = %v", "ab"+s, e)
		}
	}
}

func TestCount(t *testing.T) {
	for _, c := range []struct {
		s    string
		want int
	}{
		{"", 0},
		{"abc", 3},
		{"ä€", 2},
		{"ä€😀", 3},
		{"a\xffb", 1},
		{"\xffb", 0},
		{"\x00", 0},
		{"ab\x00c", 2},
		{"ä€\xe2\x82", 2},
		{"ä\xed\xa0\x80€", 1},
		{"\ufffd\ufffd", 2},
	} {
		if n := utf.Count(c.s); n != c.want {
			t.Errorf("Count(%x) = %d", c.s, n)
		}
	}
	for _, s := range texts() {
		want := utf8.RuneCountInString(s)
		if n := utf.Count(s); n != want {
			t.Errorf("Count(%x) = %d", s, n)
		}
		for _, w := range wrong {
			if n := utf.Count(s + w + "ab"); n != want {
				t.Errorf("Count(%x) = %d: %x begins with no rune's", s+w+"ab", n, w)
			}
		}
	}
}

func TestCut(t *testing.T) {
	for _, c := range []struct {
		s    string
		most int
		want string
	}{
		{"ä€", 4, "ä"},
		{"ä€", 5, "ä€"},
		{"ä€", 6, "ä€"},
		{"ä€", 3, "ä"},
		{"ä€", 2, "ä"},
		{"ä€", 1, ""},
		{"ä€", 0, ""},
		{"ä€", -1, ""},
		{"ä€", math.MinInt, ""},
		{"ä€", math.MaxInt, "ä€"},
		{"", 0, ""},
		{"", -1, ""},
		{"", 9, ""},
		{"ab", 1, "a"},
		{"a\xffb", 9, "a"},
		{"a\xffb", 1, "a"},
		{"a\xffb", 2, "a"},
		{"ab\x00", 3, "ab"},
		{"\x00ab", 3, ""},
		{"ä\xe2\x82", 4, "ä"},
		{"€\xed\xa0\x80€", 9, "€"},
		{"😀😀", 7, "😀"},
		{"😀😀", 8, "😀😀"},
	} {
		if s := utf.Cut(c.s, c.most); s != c.want {
			t.Errorf("Cut(%x, %d) = %x", c.s, c.most, s)
		}
	}
}

// Each beginning of the bytes is held against Cut: it is the longest that is a text and short enough.
func TestCutIsTheLongest(t *testing.T) {
	for _, s := range []string{"aä€😀€äa", "aä\xe2\x82b", "\xf0\x9f\x98", "ab\x00cd", "€\xed\xa0\x80€", "a\xc0\x80", ""} {
		for most := -2; most <= len(s)+2; most++ {
			want := ""
			for end := 0; end <= min(most, len(s)); end++ {
				if utf8.ValidString(s[:end]) && !strings.Contains(s[:end], "\x00") {
					want = s[:end]
				}
			}
			if got := utf.Cut(s, most); got != want {
				t.Errorf("Cut(%x, %d) = %x, not %x", s, most, got, want)
			}
		}
	}
}

// P2.3

func TestTextsBehindEachOtherAreAText(t *testing.T) {
	for _, a := range texts() {
		for _, b := range texts() {
			if !utf.Is([]byte(a + b)) {
				t.Errorf("%x and %x are texts, but not %x", a, b, a+b)
			}
			if n := utf.Count(a + b); n != utf.Count(a)+utf.Count(b) {
				t.Errorf("Count(%x) = %d: %d and %d", a+b, n, utf.Count(a), utf.Count(b))
			}
		}
	}
}

func TestCutLacksLessThanARune(t *testing.T) {
	for _, s := range texts() {
		for most := 0; most <= len(s)+3; most++ {
			got := utf.Cut(s, most)
			if len(s) <= most {
				if got != s {
					t.Errorf("Cut(%x, %d) = %x, not the whole", s, most, got)
				}
				continue
			}
			if !strings.HasPrefix(s, got) || !utf.Is([]byte(got)) || len(got) > most {
				t.Errorf("Cut(%x, %d) = %x", s, most, got)
				continue
			}
			if _, size := utf.Rune([]byte(s[len(got):])); most-len(got) >= size {
				t.Errorf("Cut(%x, %d) = %x: there is room for a rune of %d bytes", s, most, got, size)
			}
		}
	}
}

// A text has one row of runes, and these have one row of bytes: what Rune tells, one behind the other, is the whole.
func TestRunesAreTheText(t *testing.T) {
	for _, s := range texts() {
		var got []rune
		for b := []byte(s); len(b) > 0; {
			r, size := utf.Rune(b)
			if size == 0 {
				t.Fatalf("Rune(%x) = %x, %d, in the text %x", b, r, size, s)
			}
			got = append(got, r)
			b = b[size:]
		}
		if !slices.Equal(got, []rune(s)) || utf.Count(s) != len(got) {
			t.Errorf("the runes of %x: %x, Count %d", s, got, utf.Count(s))
		}
	}
}

// The rules that hold everywhere: what is handed in stays as it is.

func TestArgumentsStay(t *testing.T) {
	for _, s := range append(texts(), wrong...) {
		room := append([]byte(s), 0xaa, 0xaa, 0xaa)
		before := bytes.Clone(room)
		utf.Rune(room[:len(s)])
		utf.Is(room[:len(s)])
		if !bytes.Equal(room, before) {
			t.Errorf("what was handed in is %x now, and was %x", room, before)
		}
	}
}
