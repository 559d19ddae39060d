package batch_test

import (
	"bytes"
	"encoding/binary"
	"maps"
	"math/rand"
	"slices"
	"strings"
	"testing"

	"cardex/api"
	"cardex/batch"
)

const (
	longest       = "0123456789abcdef" // of MaxKey bytes
	goneWithValue = "gone with a value"
)

func put(key string, value ...byte) api.Change {
	return api.Change{Key: key, Value: value}
}

func gone(key string) api.Change {
	return api.Change{Key: key, Gone: true}
}

func row(key string, value ...byte) api.Row {
	return api.Row{Key: key, Value: value}
}

func counted(n uint32, rest ...[]byte) []byte {
	return append(binary.LittleEndian.AppendUint32(nil, n), bytes.Join(rest, nil)...)
}

// piece is the bytes of a change, whether there may be such a one or not.
func piece(c api.Change) []byte {
	b := counted(uint32(len(c.Key)), []byte(c.Key))
	if c.Gone {
		return append(b, 1)
	}
	b = append(b, 0)
	return append(b, counted(uint32(len(c.Value)), c.Value)...)
}

// whole is the bytes of changes, whether they may be or not.
func whole(l ...api.Change) []byte {
	b := counted(uint32(len(l)))
	for _, c := range l {
		b = append(b, piece(c)...)
	}
	return b
}

func sameChange(a, b api.Change) bool {
	return a.Key == b.Key && a.Gone == b.Gone && bytes.Equal(a.Value, b.Value)
}

func sameChanges(a, b []api.Change) bool {
	return slices.EqualFunc(a, b, sameChange)
}

func sameRows(a, b []api.Row) bool {
	return slices.EqualFunc(a, b, func(x, y api.Row) bool { return x.Key == y.Key && bytes.Equal(x.Value, y.Value) })
}

// byMap is a table as what a key has.
func byMap(t []api.Row) map[string]string {
	m := map[string]string{}
	for _, r := range t {
		m[r.Key] = string(r.Value)
	}
	return m
}

func tableOf(m map[string]string) []api.Row {
	var t []api.Row
	for _, key := range slices.Sorted(maps.Keys(m)) {
		t = append(t, row(key, []byte(m[key])...))
	}
	return t
}

func someKey(r *rand.Rand) string {
	b := make([]byte, 1+r.Intn(3))
	for i := range b {
		b[i] = "\x00ab\xff"[r.Intn(4)]
	}
	return string(b)
}

func someValue(r *rand.Rand) []byte {
	b := make([]byte, r.Intn(3))
	for i := range b {
		b[i] = byte(r.Intn(2))
	}
	return b
}

func someTable(r *rand.Rand) []api.Row {
	m := map[string]string{}
	for range r.Intn(12) {
		m[someKey(r)] = string(someValue(r))
	}
	return tableOf(m)
}

func someChanges(r *rand.Rand) []api.Change {
	var l []api.Change
	for _, w := range someTable(r) {
		if r.Intn(2) == 0 {
			l = append(l, gone(w.Key))
		} else {
			l = append(l, put(w.Key, w.Value...))
		}
	}
	return l
}

func got(t *testing.T, what string, b []byte) []api.Change {
	t.Helper()
	l, e := batch.Get(b)
	if e != api.OK {
		t.Fatalf("%s: Get: %v", what, e)
	}
	return l
}

func refuses(t *testing.T, what string, b []byte, want api.Errno) {
	t.Helper()
	if l, e := batch.Get(b); len(l) != 0 || e != want {
		t.Errorf("%s: Get = %v, %v, want %v", what, l, e, want)
	}
}

// P8.1

var tooLong = make([]byte, api.MaxBatch+1)

var mayBe = map[string][]api.Change{
	"none":                        nil,
	"no elements":                 {},
	"a key of one byte":           {put("a", 1)},
	"the longest key":             {put(longest, 1), gone(longest[:15] + "g")},
	"the longest value":           {put("a", tooLong[:api.MaxBatch]...)},
	"no value":                    {put("a"), {Key: "b", Value: []byte{}}},
	"gone":                        {gone("a"), {Key: "b", Value: []byte{}, Gone: true}},
	"a key that begins another":   {put("a"), put("a\x00"), put("aa"), put("ab")},
	"bytes that are no text":      {put("\x00"), put("\x7f"), put("\x80"), put("\xff"), put("\xff\xff")},
	"a capital ahead of a letter": {put("B"), put("a")},
	"many":                        {put("a", 1), gone("b"), put("c", 2), gone("d"), gone("e")},
}

var mayNotBe = map[string][]api.Change{
	"no key":                     {put("", 1)},
	"no key, gone":               {gone("")},
	"no key ahead of others":     {put("", 1), put("a")},
	"a key too long":             {put(longest + "0")},
	"a key too long, gone":       {gone(longest + "0")},
	"a value too long":           {put("a"), put("b", tooLong...)},
	goneWithValue:                {{Key: "a", Value: []byte{0}, Gone: true}},
	"falling":                    {put("b"), put("a")},
	"falling, the first ones":    {put("b"), put("a"), put("c"), put("d")},
	"falling, the last ones":     {put("a"), put("b"), put("d"), put("c")},
	"alike":                      {put("a"), put("a")},
	"alike, put and gone":        {put("a"), gone("a")},
	"alike, the last ones":       {put("a"), put("b"), put("c"), put("c", 1)},
	"alike, not side by side":    {put("a"), put("b"), put("a")},
	"behind what begins with it": {put("aa"), put("a")},
	"a byte above 127 ahead":     {put("\x80"), put("\x7f")},
}

// rowsOf leaves out what changes have and rows do not; no: a change is gone.
func rowsOf(l []api.Change) (t []api.Row, ok bool) {
	for _, c := range l {
		if c.Gone {
			return nil, false
		}
		t = append(t, api.Row{Key: c.Key, Value: c.Value})
	}
	return t, true
}

func TestMay(t *testing.T) {
	for what, l := range mayBe {
		if rows, ok := rowsOf(l); ok && !batch.May(rows) {
			t.Errorf("%s: may not be", what)
		}
		if !batch.MayChange(l) {
			t.Errorf("%s: changes may not be", what)
		}
	}
	for what, l := range mayNotBe {
		if rows, ok := rowsOf(l); ok && batch.May(rows) {
			t.Errorf("%s: may be", what)
		}
		if batch.MayChange(l) {
			t.Errorf("%s: changes may be", what)
		}
	}
}

func TestMayOfAnyKeys(t *testing.T) {
	r := rand.New(rand.NewSource(81))
	for range 5000 {
		var rows []api.Row
		var changes []api.Change
		want := true
		for i := range r.Intn(4) {
			key := someKey(r)
			want = want && (i == 0 || bytes.Compare([]byte(rows[i-1].Key), []byte(key)) < 0)
			rows = append(rows, row(key))
			changes = append(changes, api.Change{Key: key, Gone: r.Intn(2) == 0})
		}
		if batch.May(rows) != want || batch.MayChange(changes) != want {
			t.Fatalf("%q: May, MayChange = %t, %t", rows, batch.May(rows), batch.MayChange(changes))
		}
	}
}

func TestPut(t *testing.T) {
	for what, l := range mayBe {
		if b, e := batch.Put(l); !bytes.Equal(b, whole(l...)) || e != api.OK {
			t.Errorf("%s: Put = %d bytes, %v", what, len(b), e)
		}
	}
	for what, l := range mayNotBe {
		if b, e := batch.Put(l); len(b) != 0 || e != api.ErrArg {
			t.Errorf("%s: Put = %d bytes, %v", what, len(b), e)
		}
	}
}

func TestGet(t *testing.T) {
	for what, l := range mayBe {
		if m := got(t, what, whole(l...)); !sameChanges(m, l) {
			t.Errorf("%s: Get = %v", what, m)
		}
	}
	// What Put refuses, Get does; above the limits num does ahead of it.
	for what, l := range mayNotBe {
		if what == goneWithValue {
			continue // a batch has no such change
		}
		want := api.ErrForm
		if strings.Contains(what, "too long") {
			want = api.ErrLimit
		}
		refuses(t, what, whole(l...), want)
	}
}

func TestGetOfBytesThatEnd(t *testing.T) {
	b := whole(put(longest), put("a", 7, 8), gone("bc"), put("x", 1))
	for n := range b {
		refuses(t, "the first bytes", b[:n], api.ErrShort)
		// The room behind the end does not count.
		refuses(t, "the first bytes alone", bytes.Clone(b[:n]), api.ErrShort)
	}
	refuses(t, "nil", nil, api.ErrShort)
	refuses(t, "as many as there may be", counted(1<<32-1), api.ErrShort)
	refuses(t, "as many as there may be, and one", counted(1<<32-1, piece(put("a"))), api.ErrShort)
	refuses(t, "one too few", counted(2, piece(put("a"))), api.ErrShort)
	refuses(t, "a count's fourth byte", counted(1<<24, piece(put("a"))), api.ErrShort)
}

func TestGetOfBytesThatAreLeft(t *testing.T) {
	for _, left := range [][]byte{{0}, {1}, piece(put("z")), make([]byte, 100)} {
		for what, l := range mayBe {
			refuses(t, what, append(whole(l...), left...), api.ErrForm)
		}
	}
	refuses(t, "one too many", counted(1, piece(put("a")), piece(put("b"))), api.ErrForm)
}

func TestGetOfAnotherByte(t *testing.T) {
	for n := 2; n < 256; n++ {
		b := counted(1, counted(1, []byte{'a', byte(n)}))
		refuses(t, "at the end", b, api.ErrForm)
		refuses(t, "with a value", append(b, 1, 0, 0, 0, 7), api.ErrForm)
		refuses(t, "with a value too long", append(b, 255, 255, 255, 255), api.ErrForm)
	}
}

func TestGetTellsTheFirstFault(t *testing.T) {
	long := counted(17)
	falls := counted(3, piece(put("b")), piece(put("a")))
	for _, c := range []struct {
		what string
		b    []byte
		e    api.Errno
	}{
		{"a key too long, that is not there", counted(1, long), api.ErrLimit},
		{"a key too long, that is there", counted(1, long, make([]byte, 50)), api.ErrLimit},
		{"a key's greatest length", counted(1, counted(1<<32-1)), api.ErrLimit},
		{"a key's length that is not there as a whole", counted(1, long[:3]), api.ErrShort},
		{"the longest key, that ends too soon", counted(1, counted(16), make([]byte, 15)), api.ErrShort},
		{"a value too long, that is not there", counted(1, counted(1, []byte("a\x00")), counted(api.MaxBatch+1)), api.ErrLimit},
		{"the longest value, that is not there", counted(1, counted(1, []byte("a\x00")), counted(api.MaxBatch)), api.ErrShort},
		{"a value's length that is not there as a whole", counted(1, counted(1, []byte("a\x00\x01\x00\x00"))), api.ErrShort},
		{"no key, no byte", counted(1, counted(0)), api.ErrShort},
		{"no key, a value too long", counted(1, counted(0, []byte{0}), counted(api.MaxBatch+1)), api.ErrLimit},
		{"no key, a value that is not there", counted(1, counted(0, []byte{0}), counted(1)), api.ErrShort},
		{"alike, a value too long", counted(2, piece(put("a")), counted(1, []byte("a\x00")), counted(api.MaxBatch+1)), api.ErrLimit},
		{"alike, a value that is not there", counted(2, piece(put("a")), counted(1, []byte("a\x00")), counted(1)), api.ErrShort},
		{"alike, another byte", counted(2, piece(put("a")), counted(1, []byte("a\x02"))), api.ErrForm},
		{"falling, none behind it", falls, api.ErrForm},
		{"falling, a key too long behind it", append(bytes.Clone(falls), long...), api.ErrForm},
		{"no key, gone, none behind it", counted(2, counted(0, []byte{1})), api.ErrForm},
		{"no key, none behind it", counted(2, piece(put("", 7))), api.ErrForm},
		{"a key too long, behind those that may be", counted(2, piece(put("a")), long), api.ErrLimit},
		{"another byte ahead of a key too long", counted(2, counted(1, []byte("a\x02")), long), api.ErrForm},
		{"a falling one that would rise from the one ahead of it but one", counted(3, piece(put("a")), piece(put("c")), piece(put("b"))), api.ErrForm},
	} {
		refuses(t, c.what, c.b, c.e)
	}
}

// reads is Get in another way: what stands there is eaten from the left.
func reads(b []byte) (l []api.Change, e api.Errno) {
	eat := func(n int) []byte {
		if e != api.OK || n > len(b) {
			if e == api.OK {
				e = api.ErrShort
			}
			return make([]byte, 8)
		}
		part := b[:n]
		b = b[n:]
		return part
	}
	number := func() int { return int(binary.LittleEndian.Uint32(eat(4))) }
	text := func(most int) string {
		n := number()
		if e == api.OK && n > most {
			e = api.ErrLimit
		}
		if e != api.OK {
			return ""
		}
		return string(eat(n))
	}
	last := ""
	for n := number(); n > 0 && e == api.OK; n-- {
		c := api.Change{Key: text(api.MaxKey)}
		kind := eat(1)[0]
		if e == api.OK && kind > 1 {
			e = api.ErrForm
		}
		c.Gone = kind == 1
		if e == api.OK && kind == 0 {
			c.Value = []byte(text(api.MaxBatch))
		}
		if e == api.OK && c.Key <= last {
			e = api.ErrForm
		}
		last = c.Key
		l = append(l, c)
	}
	if e == api.OK && len(b) > 0 {
		e = api.ErrForm
	}
	if e != api.OK {
		return nil, e
	}
	return l, api.OK
}

func TestGetOfAnyBytes(t *testing.T) {
	r := rand.New(rand.NewSource(82))
	seen := map[api.Errno]int{}
	for range 60000 {
		b := whole(someChanges(r)...)
		for range r.Intn(3) {
			b[r.Intn(len(b))] = byte(r.Intn(3))
		}
		if r.Intn(4) == 0 {
			b[r.Intn(len(b))] = byte(r.Intn(256))
		}
		if r.Intn(8) == 0 {
			b = b[:r.Intn(len(b)+1)]
		}
		want, f := reads(b)
		l, e := batch.Get(b)
		if e != f || !sameChanges(l, want) {
			t.Fatalf("Get(%x) = %v, %v, want %v, %v", b, l, e, want, f)
		}
		seen[e]++
		if e != api.OK {
			continue
		}
		if again, e := batch.Put(l); !bytes.Equal(again, b) || e != api.OK {
			t.Fatalf("Put(Get(%x)) = %x, %v", b, again, e)
		}
	}
	for _, e := range []api.Errno{api.OK, api.ErrShort, api.ErrLimit, api.ErrForm} {
		if seen[e] < 100 {
			t.Errorf("%v came %d times", e, seen[e])
		}
	}
}

// P8.2

var noTables = [][]api.Row{
	{row("b"), row("a")},
	{row("a"), row("a")},
	{row("")},
	{row(longest + "0")},
	{row("a", tooLong...)},
}

func TestApply(t *testing.T) {
	table := []api.Row{row("a", 7), row("c"), row("e", 1, 2)}
	for _, c := range []struct {
		what string
		t    []api.Row
		l    []api.Change
		want []api.Row
	}{
		{"none on none", nil, nil, nil},
		{"none", table, nil, table},
		{"on none", nil, []api.Change{put("a", 1), gone("b"), put("c")}, []api.Row{row("a", 1), row("c")}},
		{"ahead", table, []api.Change{put("\x00", 1)}, []api.Row{row("\x00", 1), row("a", 7), row("c"), row("e", 1, 2)}},
		{"between", table, []api.Change{put("b"), put("d", 4)}, []api.Row{row("a", 7), row("b"), row("c"), row("d", 4), row("e", 1, 2)}},
		{"behind", table, []api.Change{put("ea", 4)}, []api.Row{row("a", 7), row("c"), row("e", 1, 2), row("ea", 4)}},
		{"another value", table, []api.Change{put("a", 8), put("c", 1), put("e")}, []api.Row{row("a", 8), row("c", 1), row("e")}},
		{"the same value", table, []api.Change{put("a", 7)}, table},
		{"gone", table, []api.Change{gone("c")}, []api.Row{row("a", 7), row("e", 1, 2)}},
		{"gone, not there", table, []api.Change{gone("\x00"), gone("b"), gone("f")}, table},
		{"all gone", table, []api.Change{gone("a"), gone("c"), gone("e")}, nil},
		{"all of it", table, []api.Change{gone("a"), put("b", 9), put("c", 3), gone("e"), put("f")}, []api.Row{row("b", 9), row("c", 3), row("f")}},
	} {
		if got, e := batch.Apply(c.t, c.l); !sameRows(got, c.want) || e != api.OK {
			t.Errorf("%s: Apply = %v, %v", c.what, got, e)
		}
	}
}

func TestWhatMayNotBeIsRefused(t *testing.T) {
	some := []api.Row{row("a", 7)}
	for _, bad := range noTables {
		for _, l := range [][]api.Change{nil, {put("a", 1)}, {put("b"), put("a")}} {
			if got, e := batch.Apply(bad, l); len(got) != 0 || e != api.ErrArg {
				t.Errorf("Apply on %q: %d rows, %v", bad[0].Key, len(got), e)
			}
		}
		for _, other := range [][]api.Row{nil, some, bad} {
			if got, e := batch.Between(bad, other); len(got) != 0 || e != api.ErrArg {
				t.Errorf("Between from %q: %d changes, %v", bad[0].Key, len(got), e)
			}
			if got, e := batch.Between(other, bad); len(got) != 0 || e != api.ErrArg {
				t.Errorf("Between to %q: %d changes, %v", bad[0].Key, len(got), e)
			}
		}
		if got, e := batch.Whole(bad); len(got) != 0 || e != api.ErrArg {
			t.Errorf("Whole of %q: %d changes, %v", bad[0].Key, len(got), e)
		}
		if v, ok := batch.Find(bad, bad[0].Key); len(v) != 0 || ok {
			t.Errorf("Find in %q: %d bytes, %t", bad[0].Key, len(v), ok)
		}
	}
	for what, l := range mayNotBe {
		for _, table := range [][]api.Row{nil, some} {
			if got, e := batch.Apply(table, l); len(got) != 0 || e != api.ErrArg {
				t.Errorf("Apply of %s: %d rows, %v", what, len(got), e)
			}
		}
	}
}

func TestApplyOfAnyChanges(t *testing.T) {
	r := rand.New(rand.NewSource(83))
	for range 5000 {
		table, l := someTable(r), someChanges(r)
		m := byMap(table)
		for _, c := range l {
			delete(m, c.Key)
			if !c.Gone {
				m[c.Key] = string(c.Value)
			}
		}
		if got, e := batch.Apply(table, l); !sameRows(got, tableOf(m)) || e != api.OK {
			t.Fatalf("Apply(%v, %v) = %v, %v", table, l, got, e)
		}
	}
}

func TestBetween(t *testing.T) {
	table := []api.Row{row("a", 7), row("c"), row("e", 1, 2)}
	for _, c := range []struct {
		what string
		a, b []api.Row
		want []api.Change
	}{
		{"none and none", nil, nil, nil},
		{"the same", table, []api.Row{row("a", 7), {Key: "c", Value: []byte{}}, row("e", 1, 2)}, nil},
		{"none and some", nil, table, []api.Change{put("a", 7), put("c"), put("e", 1, 2)}},
		{"some and none", table, nil, []api.Change{gone("a"), gone("c"), gone("e")}},
		{"others", table, []api.Row{row("b", 7), row("d"), row("f", 1, 2)}, []api.Change{gone("a"), put("b", 7), gone("c"), put("d"), gone("e"), put("f", 1, 2)}},
		{"another value", table, []api.Row{row("a", 9), row("c"), row("e", 1)}, []api.Change{put("a", 9), put("e", 1)}},
		{"a value, and none", table, []api.Row{row("a"), row("c", 1), row("e", 1, 2)}, []api.Change{put("a"), put("c", 1)}},
		{"behind the end", table[:1], table, []api.Change{put("c"), put("e", 1, 2)}},
		{"ahead of the end", table, table[1:], []api.Change{gone("a")}},
	} {
		if got, e := batch.Between(c.a, c.b); !sameChanges(got, c.want) || e != api.OK {
			t.Errorf("%s: Between = %v, %v", c.what, got, e)
		}
	}
}

func TestBetweenAnyTables(t *testing.T) {
	r := rand.New(rand.NewSource(84))
	for range 5000 {
		a, b := someTable(r), someTable(r)
		from, to := byMap(a), byMap(b)
		both := maps.Clone(from)
		maps.Copy(both, to)
		var want []api.Change
		for _, key := range slices.Sorted(maps.Keys(both)) {
			was, had := from[key]
			is, has := to[key]
			if has && (!had || was != is) {
				want = append(want, put(key, []byte(is)...))
			} else if !has {
				want = append(want, gone(key))
			}
		}
		if got, e := batch.Between(a, b); !sameChanges(got, want) || e != api.OK {
			t.Fatalf("Between(%v, %v) = %v, %v", a, b, got, e)
		}
	}
}

func TestWhole(t *testing.T) {
	if l, e := batch.Whole(nil); len(l) != 0 || e != api.OK {
		t.Errorf("Whole(none) = %v, %v", l, e)
	}
	l, e := batch.Whole([]api.Row{row(longest, 1, 2), row("a", 7), row("c")})
	if !sameChanges(l, []api.Change{put(longest, 1, 2), put("a", 7), put("c")}) || e != api.OK {
		t.Errorf("Whole = %v, %v", l, e)
	}
}

// P8.3

func TestFind(t *testing.T) {
	table := []api.Row{row("a", 7), row("ab"), row("b", 1, 2), row(longest[10:], 3), row("\xff", 4)}
	slices.SortFunc(table, func(x, y api.Row) int { return strings.Compare(x.Key, y.Key) })
	for n := range len(table) + 1 {
		for _, w := range table {
			v, ok := batch.Find(table[:n], w.Key)
			want := slices.ContainsFunc(table[:n], func(x api.Row) bool { return x.Key == w.Key })
			if ok != want || ok && !bytes.Equal(v, w.Value) || !ok && len(v) != 0 {
				t.Errorf("Find(%q of %d) = %x, %t", w.Key, n, v, ok)
			}
		}
	}
	for _, key := range []string{"", "\x00", "A", "aa", "ac", "a\x00", "b\x00", longest + "0", "\xff\xff"} {
		if v, ok := batch.Find(table, key); len(v) != 0 || ok {
			t.Errorf("Find(%q) = %x, %t", key, v, ok)
		}
	}
	if v, ok := batch.Find(nil, "a"); len(v) != 0 || ok {
		t.Errorf("Find in none = %x, %t", v, ok)
	}
}

func TestFindWhereAnotherRowMayNotBe(t *testing.T) {
	for _, bad := range [][]api.Row{
		{row("a", 7), row("c"), row("b")},
		{row("a", 7), row("b"), row("b")},
		{row(""), row("a", 7)},
		{row("a", 7), row("b", tooLong...)},
		{row("a", 7), row("b" + longest)},
	} {
		if v, ok := batch.Find(bad, "a"); len(v) != 0 || ok {
			t.Errorf("Find = %x, %t", v, ok)
		}
	}
}

func TestSame(t *testing.T) {
	for _, l := range [][]api.Row{nil, {row("a", 7)}, {row("a", 7), row("b")}, {row("b"), row("a", 7)}, {row("a"), row("a")}, {row("", 1)}, {row(longest+"0", 1)}} {
		other := make([]api.Row, len(l))
		for i, w := range l {
			other[i] = api.Row{Key: w.Key, Value: append([]byte{}, w.Value...)}
		}
		if !batch.Same(l, other) || !batch.Same(other, l) {
			t.Errorf("not the same: %v", l)
		}
	}
	for _, c := range []struct{ a, b []api.Row }{
		{nil, []api.Row{row("a")}},
		{nil, []api.Row{{}}},
		{[]api.Row{row("a", 7)}, []api.Row{row("a", 8)}},
		{[]api.Row{row("a", 7)}, []api.Row{row("a", 7, 0)}},
		{[]api.Row{row("a", 7)}, []api.Row{row("a")}},
		{[]api.Row{row("a", 7)}, []api.Row{row("b", 7)}},
		{[]api.Row{row("a", 7)}, []api.Row{row("a", 7), row("b")}},
		{[]api.Row{row("a"), row("b")}, []api.Row{row("b"), row("a")}},
		{[]api.Row{row("a"), row("b", 1)}, []api.Row{row("a"), row("b", 2)}},
		{[]api.Row{row("a"), row("a", 1)}, []api.Row{row("a", 1), row("a")}},
	} {
		if batch.Same(c.a, c.b) || batch.Same(c.b, c.a) {
			t.Errorf("the same: %v, %v", c.a, c.b)
		}
	}
}

// P8.4

func TestWhatFollows(t *testing.T) {
	r := rand.New(rand.NewSource(85))
	for range 3000 {
		a, b, l := someTable(r), someTable(r), someChanges(r)
		bs, e := batch.Put(l)
		if m := got(t, "what was put", bs); !sameChanges(m, l) || e != api.OK {
			t.Fatalf("Get(Put(%v)) = %v, %v", l, m, e)
		}
		between, e := batch.Between(a, b)
		if e != api.OK || !batch.MayChange(between) {
			t.Fatalf("Between(%v, %v) = %v, %v", a, b, between, e)
		}
		if c, e := batch.Apply(a, between); !batch.Same(c, b) || e != api.OK {
			t.Fatalf("Apply of Between(%v, %v) = %v, %v", a, b, c, e)
		}
		all, e := batch.Whole(a)
		if e != api.OK || !batch.MayChange(all) {
			t.Fatalf("Whole(%v) = %v, %v", a, all, e)
		}
		if c, e := batch.Apply(nil, all); !batch.Same(c, a) || e != api.OK {
			t.Fatalf("Apply of Whole(%v) = %v, %v", a, c, e)
		}
	}
}

func TestGreatBatch(t *testing.T) {
	m := map[string]string{}
	for i := range 50000 {
		m[string(binary.BigEndian.AppendUint32([]byte("i"), uint32(i)))] = "v"
	}
	table := tableOf(m)
	l, e := batch.Whole(table)
	if len(l) != len(table) || e != api.OK {
		t.Fatalf("Whole: %d changes, %v", len(l), e)
	}
	b, e := batch.Put(l)
	if !bytes.Equal(b, whole(l...)) || e != api.OK {
		t.Fatalf("Put: %d bytes, %v", len(b), e)
	}
	if c, e := batch.Apply(nil, got(t, "a great one", b)); !batch.Same(c, table) || e != api.OK {
		t.Errorf("Apply: %d rows, %v", len(c), e)
	}
}

func TestExamples(t *testing.T) {
	seven := []api.Row{row("a", 7)}
	b, e := batch.Put([]api.Change{put("a", 7)})
	if !bytes.Equal(b, []byte{1, 0, 0, 0, 1, 0, 0, 0, 0x61, 0, 1, 0, 0, 0, 7}) || e != api.OK {
		t.Errorf("Put = %x, %v", b, e)
	}
	if l := got(t, "that", b); !sameChanges(l, []api.Change{put("a", 7)}) {
		t.Errorf("Get = %v", l)
	}
	if b, e := batch.Put([]api.Change{put("b"), put("a")}); b != nil || e != api.ErrArg {
		t.Errorf("Put = %x, %v", b, e)
	}
	if c, e := batch.Apply(seven, []api.Change{gone("a"), put("b", 8)}); !sameRows(c, []api.Row{row("b", 8)}) || e != api.OK {
		t.Errorf("Apply = %v, %v", c, e)
	}
	if l, e := batch.Between(seven, []api.Row{row("a", 9)}); !sameChanges(l, []api.Change{put("a", 9)}) || e != api.OK {
		t.Errorf("Between = %v, %v", l, e)
	}
	if l, e := batch.Whole(nil); len(l) != 0 || e != api.OK {
		t.Errorf("Whole = %v, %v", l, e)
	}
	if v, ok := batch.Find(seven, "b"); v != nil || ok {
		t.Errorf("Find = %x, %t", v, ok)
	}
}

// What is handed in stays, and is not in what is answered.

// roomy has bytes behind its end that nobody may touch.
func roomy(b []byte) []byte {
	all := append(append([]byte{}, b...), 0xaa, 0xbb, 0xcc, 0xdd)
	return all[:len(b)]
}

func roomyRows(l []api.Row) []api.Row {
	all := make([]api.Row, len(l)+2)
	for i, w := range l {
		all[i] = api.Row{Key: w.Key, Value: roomy(w.Value)}
	}
	all[len(l)], all[len(l)+1] = row("behind", 1), row("behind it", 2)
	return all[:len(l)]
}

func roomyChanges(l []api.Change) []api.Change {
	all := make([]api.Change, len(l)+2)
	for i, c := range l {
		all[i] = api.Change{Key: c.Key, Value: roomy(c.Value), Gone: c.Gone}
	}
	all[len(l)], all[len(l)+1] = put("behind", 1), gone("behind it")
	return all[:len(l)]
}

func staysRoomy(t *testing.T, b []byte) {
	t.Helper()
	if !bytes.Equal(b[len(b):len(b)+4], []byte{0xaa, 0xbb, 0xcc, 0xdd}) {
		t.Errorf("the room behind %x: %x", b, b[len(b):len(b)+4])
	}
}

func TestWhatIsHandedInStays(t *testing.T) {
	rows := []api.Row{row("a", 7), row("c", 3), row("e", 5)}
	changes := []api.Change{gone("a"), put("b", 9), put("c", 4)}
	in, other, l := roomyRows(rows), roomyRows(rows[:2]), roomyChanges(changes)
	b := roomy(whole(changes...))
	batch.Put(l)
	batch.Get(b)
	batch.Apply(in, l)
	batch.Between(in, other)
	batch.Between(other, in)
	batch.Whole(in)
	batch.Find(in, "c")
	batch.Same(in, other)
	batch.May(in)
	batch.MayChange(l)
	if !sameRows(in, rows) || !sameRows(other, rows[:2]) || !sameChanges(l, changes) || !bytes.Equal(b, whole(changes...)) {
		t.Errorf("what was handed in: %v, %v, %v, %x", in, other, l, b)
	}
	if !sameRows(in[3:5], []api.Row{row("behind", 1), row("behind it", 2)}) || !sameChanges(l[3:5], []api.Change{put("behind", 1), gone("behind it")}) {
		t.Errorf("the room behind the lists: %v, %v", in[3:5], l[3:5])
	}
	staysRoomy(t, b)
	for _, w := range slices.Concat(in, other) {
		staysRoomy(t, w.Value)
	}
	for _, c := range l {
		staysRoomy(t, c.Value)
	}
}

func TestWhatMayNotBeStays(t *testing.T) {
	// Lists of its own: the other tests have handed theirs in already.
	for _, l := range [][]api.Change{{put("b", 1), put("a", 2)}, {put("a", 1), gone("a"), put("b", 2)}, {put("a", 1), put("b", 2), put("b", 3)}} {
		keep := slices.Clone(l)
		batch.MayChange(l)
		batch.Put(l)
		batch.Apply(nil, l)
		if !sameChanges(l, keep) {
			t.Errorf("%v: changes that were handed in are others: %v", keep, l)
		}
	}
	for _, l := range [][]api.Row{{row("b", 1), row("a", 2)}, {row("a", 1), row("a", 2), row("b", 3)}, {row("a", 1), row("b", 2), row("b", 3)}} {
		keep := slices.Clone(l)
		batch.May(l)
		batch.Apply(l, nil)
		batch.Between(l, l)
		batch.Whole(l)
		batch.Find(l, "a")
		batch.Same(l, l)
		if !sameRows(l, keep) {
			t.Errorf("%v: rows that were handed in are others: %v", keep, l)
		}
	}
}

// spoil writes over all of a value, the room behind its end too.
func spoil(b []byte) {
	for i := range b[:cap(b)] {
		b[:cap(b)][i] ^= 0xff
	}
}

func TestAnswersShareNothing(t *testing.T) {
	in := []api.Row{row("a", 7), row("c", 3), row("e", 5)}
	other := []api.Row{row("a", 8), row("c", 3), row("f", 5)}
	l := []api.Change{gone("a"), put("b", 9), put("c", 4)}
	b := whole(l...)
	keepIn, keepOther, keepL, keepB := roomyRows(in), roomyRows(other), roomyChanges(l), bytes.Clone(b)
	unspoiled := func(what string) {
		t.Helper()
		if !sameRows(in, keepIn) || !sameRows(other, keepOther) || !sameChanges(l, keepL) || !bytes.Equal(b, keepB) {
			t.Errorf("%s: what was handed in: %v, %v, %v, %x", what, in, other, l, b)
		}
	}
	spoilChanges := func(what string, m []api.Change) {
		t.Helper()
		keep := roomyChanges(m)
		for i := range m {
			spoil(m[i].Value)
			if !sameChanges(m[i+1:], keep[i+1:]) {
				t.Errorf("%s: values share bytes", what)
			}
		}
		unspoiled(what)
	}
	put, _ := batch.Put(l)
	spoil(put)
	unspoiled("Put")
	get, _ := batch.Get(b)
	spoilChanges("Get", get)
	between, _ := batch.Between(in, other)
	spoilChanges("Between", between)
	all, _ := batch.Whole(in)
	spoilChanges("Whole", all)
	apply, _ := batch.Apply(in, l)
	keep := roomyRows(apply)
	for i := range apply {
		spoil(apply[i].Value)
		if !sameRows(apply[i+1:], keep[i+1:]) {
			t.Error("Apply: values share bytes")
		}
	}
	unspoiled("Apply")
	find, _ := batch.Find(in, "c")
	spoil(find)
	unspoiled("Find")
}
