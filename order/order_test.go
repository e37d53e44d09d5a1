package order_test

import (
	"bytes"
	"math"
	"math/rand"
	"slices"
	"strconv"
	"strings"
	"testing"

	"duramen/api"
	"duramen/order"
)

func number(n int) api.Part { return api.Part{Number: n} }

func text(s string) api.Part { return api.Part{IsText: true, Text: s} }

func tuple(l ...api.Part) []api.Part { return l }

// golden is tuples and their bytes, written out by hand from the document's words.
func golden() []struct {
	l []api.Part
	b []byte
} {
	return []struct {
		l []api.Part
		b []byte
	}{
		{nil, nil},
		{tuple(), []byte{}},
		{tuple(number(0)), []byte{1, 128, 0, 0, 0, 0, 0, 0, 0}},
		{tuple(number(1)), []byte{1, 128, 0, 0, 0, 0, 0, 0, 1}},
		{tuple(number(-1)), []byte{1, 127, 255, 255, 255, 255, 255, 255, 255}},
		{tuple(number(255)), []byte{1, 128, 0, 0, 0, 0, 0, 0, 255}},
		{tuple(number(256)), []byte{1, 128, 0, 0, 0, 0, 0, 1, 0}},
		{tuple(number(-256)), []byte{1, 127, 255, 255, 255, 255, 255, 255, 0}},
		{tuple(number(0x0102030405060708)), []byte{1, 129, 2, 3, 4, 5, 6, 7, 8}},
		{tuple(number(math.MinInt)), []byte{1, 0, 0, 0, 0, 0, 0, 0, 0}},
		{tuple(number(math.MinInt + 1)), []byte{1, 0, 0, 0, 0, 0, 0, 0, 1}},
		{tuple(number(math.MaxInt)), []byte{1, 255, 255, 255, 255, 255, 255, 255, 255}},
		{tuple(text("")), []byte{2, 0, 1}},
		{tuple(text("a")), []byte{2, 97, 0, 1}},
		{tuple(text("ab")), []byte{2, 97, 98, 0, 1}},
		{tuple(text("\x00")), []byte{2, 0, 255, 0, 1}},
		{tuple(text("\x00\x00")), []byte{2, 0, 255, 0, 255, 0, 1}},
		{tuple(text("\x01")), []byte{2, 1, 0, 1}},
		{tuple(text("\x00\x01")), []byte{2, 0, 255, 1, 0, 1}},
		{tuple(text("\xff")), []byte{2, 255, 0, 1}},
		{tuple(text("\x00\xff")), []byte{2, 0, 255, 255, 0, 1}},
		{tuple(text("a\x00b")), []byte{2, 97, 0, 255, 98, 0, 1}},
		{tuple(text("é")), []byte{2, 195, 169, 0, 1}},
		{tuple(number(1), text("ab")), []byte{1, 128, 0, 0, 0, 0, 0, 0, 1, 2, 97, 98, 0, 1}},
		{tuple(text("ab"), number(1)), []byte{2, 97, 98, 0, 1, 1, 128, 0, 0, 0, 0, 0, 0, 1}},
		{tuple(text(""), text("")), []byte{2, 0, 1, 2, 0, 1}},
		{tuple(text("a"), text("b")), []byte{2, 97, 0, 1, 2, 98, 0, 1}},
		{tuple(number(0), number(-1)), []byte{1, 128, 0, 0, 0, 0, 0, 0, 0, 1, 127, 255, 255, 255, 255, 255, 255, 255}},
	}
}

// rising is tuples in their order, from the least on.
func rising() [][]api.Part {
	return [][]api.Part{
		nil,
		tuple(number(math.MinInt)),
		tuple(number(math.MinInt + 1)),
		tuple(number(-257)),
		tuple(number(-256)),
		tuple(number(-1)),
		tuple(number(0)),
		tuple(number(0), number(-7)),
		tuple(number(0), number(7)),
		tuple(number(0), number(7), number(math.MinInt)),
		tuple(number(0), text("")),
		tuple(number(0), text("a")),
		tuple(number(1)),
		tuple(number(255)),
		tuple(number(256)),
		tuple(number(1 << 32)),
		tuple(number(math.MaxInt)),
		tuple(number(math.MaxInt), text("\xff\xff")),
		tuple(text("")),
		tuple(text(""), number(math.MaxInt)),
		tuple(text(""), text("")),
		tuple(text(""), text("b")),
		tuple(text("\x00")),
		tuple(text("\x00"), number(0)),
		tuple(text("\x00"), text("\xff")),
		tuple(text("\x00\x00")),
		tuple(text("\x00\x01")),
		tuple(text("\x00\xff")),
		tuple(text("\x01")),
		tuple(text("\x02")),
		tuple(text("a")),
		tuple(text("a"), number(1)),
		tuple(text("a"), text("z")),
		tuple(text("a\x00")),
		tuple(text("a\x00b")),
		tuple(text("a\x01")),
		tuple(text("aa")),
		tuple(text("ab")),
		tuple(text("b")),
		tuple(text("\x7f")),
		tuple(text("\x80")),
		tuple(text("\xff")),
		tuple(text("\xff\x00")),
		tuple(text("\xff\xff")),
	}
}

func show(l []api.Part) string {
	words := []string{}
	for _, p := range l {
		if p.IsText {
			words = append(words, strconv.Quote(p.Text))
		} else {
			words = append(words, strconv.Itoa(p.Number))
		}
	}
	return "(" + strings.Join(words, " ") + ")"
}

func sign(less, more bool) int {
	if less {
		return -1
	}
	if more {
		return 1
	}
	return 0
}

// P1.1: Write.
func TestWrite(t *testing.T) {
	for _, g := range golden() {
		if b := order.Write(g.l); !bytes.Equal(b, g.b) {
			t.Errorf("Write%s = %v, not %v", show(g.l), b, g.b)
		}
	}
}

// P1.1: of a part only what it is.
func TestWriteTakesOfAPartWhatItIs(t *testing.T) {
	got := order.Write(tuple(api.Part{Number: 3, Text: "no"}, api.Part{IsText: true, Number: 9, Text: "yes"}))
	want := order.Write(tuple(number(3), text("yes")))
	if !bytes.Equal(got, want) {
		t.Errorf("%v, not %v", got, want)
	}
}

// P1.1: Read of what is a tuple's bytes.
func TestRead(t *testing.T) {
	for _, g := range golden() {
		l, e := order.Read(g.b)
		if e != api.OK || !slices.Equal(l, g.l) {
			t.Errorf("Read(%v) = %s %v, not %s", g.b, show(l), e, show(g.l))
		}
	}
}

// P1.1: each beginning of a tuple's bytes is a tuple's that has fewer parts, or ends within a part.
func TestReadOfBeginnings(t *testing.T) {
	l := tuple(number(-5), text("a\x00\x00b"), text(""), number(1<<40), text("\xff"))
	b := order.Write(l)
	ends := map[int]int{}
	for i := range l {
		ends[len(order.Write(l[:i+1]))] = i + 1
	}
	ends[0] = 0
	for i := range len(b) + 1 {
		got, e := order.Read(b[:i])
		parts, whole := ends[i]
		if whole && (e != api.OK || !slices.Equal(got, l[:parts])) {
			t.Errorf("Read of %d bytes = %s %v", i, show(got), e)
		}
		if !whole && (e != api.ErrShort || len(got) != 0) {
			t.Errorf("Read of %d bytes = %s %v, not ErrShort", i, show(got), e)
		}
	}
}

// P1.1: what is no tuple's bytes is told by what comes first.
func TestReadErrors(t *testing.T) {
	for _, c := range []struct {
		b    string
		want api.Errno
	}{
		{"\x00", api.ErrBytes},
		{"\x03", api.ErrBytes},
		{"\xff", api.ErrBytes},
		{"a", api.ErrBytes},
		{"\x01", api.ErrShort},
		{"\x01\x00\x00\x00\x00\x00\x00\x00", api.ErrShort},
		{"\x01\x00\x00\x00\x00\x00\x00\x00\x00\x00", api.ErrBytes},
		{"\x01\x00\x03", api.ErrShort},
		{"\x02", api.ErrShort},
		{"\x02a", api.ErrShort},
		{"\x02\x00", api.ErrShort},
		{"\x02\x00\xff", api.ErrShort},
		{"\x02\x00\xff\x00", api.ErrShort},
		{"\x02\xff", api.ErrShort},
		{"\x02a\x01", api.ErrShort},
		{"\x02\x00\x00", api.ErrBytes},
		{"\x02\x00\x00\x01", api.ErrBytes},
		{"\x02\x00\x02", api.ErrBytes},
		{"\x02\x00\xfe", api.ErrBytes},
		{"\x02a\x00b\x00\x01", api.ErrBytes},
		{"\x02\x00\x02\x01", api.ErrBytes},
		{"\x02\x00\x01\x00", api.ErrBytes},
		{"\x02\x00\x01\x03", api.ErrBytes},
		{"\x02\x00\x01\x01", api.ErrShort},
		{"\x02\x00\x01\x02", api.ErrShort},
		{"\x03\x01", api.ErrBytes},
		{"\x03\x02\x00\x01", api.ErrBytes},
		{"\x02\x00\x01\x02\x00\x07\x01", api.ErrBytes},
	} {
		if l, e := order.Read([]byte(c.b)); len(l) != 0 || e != c.want {
			t.Errorf("Read(%q) = %s %v, not %v", c.b, show(l), e, c.want)
		}
	}
}

// readSlowly is Read, said another way: the longest beginning of b that is some part's bytes is cut off, as long as there is one.
func readSlowly(b string) ([]api.Part, api.Errno) {
	var l []api.Part
	for b != "" {
		switch b[0] {
		case 1:
			if len(b) < 9 {
				return nil, api.ErrShort
			}
			n := 0
			for _, c := range []byte(b[1:9]) {
				n = n*256 + int(c)
			}
			l, b = append(l, number(n+math.MinInt)), b[9:]
		case 2:
			i := 1
			for i+1 < len(b) && (b[i] != 0 || b[i+1] == 255) {
				if b[i] == 0 {
					i++
				}
				i++
			}
			if i+1 >= len(b) {
				return nil, api.ErrShort
			}
			if b[i+1] != 1 {
				return nil, api.ErrBytes
			}
			l, b = append(l, text(strings.ReplaceAll(b[1:i], "\x00\xff", "\x00"))), b[i+2:]
		default:
			return nil, api.ErrBytes
		}
	}
	return l, api.OK
}

func checkRead(t *testing.T, b []byte) {
	l, e := order.Read(b)
	want, wantE := readSlowly(string(b))
	if e != wantE || !slices.Equal(l, want) {
		t.Fatalf("Read(%v) = %s %v, not %s %v", b, show(l), e, show(want), wantE)
	}
	if e == api.OK && !bytes.Equal(order.Write(l), b) {
		t.Fatalf("%v is read, but %s is not written so", b, show(l))
	}
}

// P1.1: all short bytes of the ones that matter, as texts and behind a number.
func TestReadOfAllShortBytes(t *testing.T) {
	letters := []byte{0, 1, 2, 3, 97, 254, 255}
	head := order.Write(tuple(number(-2)))
	var all func(b []byte, left int)
	all = func(b []byte, left int) {
		checkRead(t, b)
		checkRead(t, append([]byte{2}, b...))
		checkRead(t, append(slices.Clone(head), b...))
		if left == 0 {
			return
		}
		for _, c := range letters {
			all(append(slices.Clip(b), c), left-1)
		}
	}
	all(nil, 5)
}

func anyTuple(r *rand.Rand) []api.Part {
	var l []api.Part
	for range r.Intn(4) {
		if r.Intn(2) == 0 {
			l = append(l, number(anyNumber(r)))
		} else {
			l = append(l, text(anyText(r, r.Intn(5))))
		}
	}
	return l
}

func anyNumber(r *rand.Rand) int {
	switch r.Intn(3) {
	case 0:
		return r.Intn(5) - 2
	case 1:
		return int(r.Uint64())
	}
	return (r.Intn(3) - 1) << r.Intn(64)
}

func anyText(r *rand.Rand, n int) string {
	b := make([]byte, n)
	for i := range b {
		b[i] = "\x00\x01\x02ab\xfe\xff"[r.Intn(7)]
	}
	return string(b)
}

// P1.1: what is written is read; spoilt bytes are told as they are.
func TestReadOfSpoiltBytes(t *testing.T) {
	r := rand.New(rand.NewSource(1))
	for range 20000 {
		l := anyTuple(r)
		b := order.Write(l)
		if got, e := order.Read(b); e != api.OK || !slices.Equal(got, l) {
			t.Fatalf("%s is read as %s %v", show(l), show(got), e)
		}
		if len(b) > 0 {
			b[r.Intn(len(b))] = byte(r.Intn(256))
			checkRead(t, b)
			checkRead(t, b[:r.Intn(len(b))])
		}
	}
}

// P1.1: Read of each value that a number's byte may have.
func TestNumbersAllBytes(t *testing.T) {
	for place := range 8 {
		for c := range 256 {
			b := []byte{1, 128, 0, 0, 0, 0, 0, 0, 0}
			b[1+place] = byte(c)
			checkRead(t, b)
		}
	}
}

// P1.1: texts of many bytes, all values among them.
func TestLongTexts(t *testing.T) {
	all := make([]byte, 256)
	for i := range all {
		all[i] = byte(i)
	}
	for _, s := range []string{string(all), strings.Repeat("\x00", 100000), strings.Repeat(string(all), 300)} {
		b := order.Write(tuple(text(s), number(4)))
		if len(b) != 1+len(s)+strings.Count(s, "\x00")+2+9 {
			t.Errorf("%d bytes of a text of %d", len(b), len(s))
		}
		if l, e := order.Read(b); e != api.OK || !slices.Equal(l, tuple(text(s), number(4))) {
			t.Errorf("a text of %d bytes is read otherwise: %v", len(s), e)
		}
	}
}

// P1.1: Compare.
func TestCompare(t *testing.T) {
	l := rising()
	for i, a := range l {
		for k, b := range l {
			if got := order.Compare(a, b); got != sign(i < k, i > k) {
				t.Errorf("Compare(%s, %s) = %d", show(a), show(b), got)
			}
		}
	}
	if order.Compare(nil, []api.Part{}) != 0 || order.Compare([]api.Part{}, nil) != 0 {
		t.Error("nil and empty are not one")
	}
}

// P1.1: Compare looks at nothing of a part but what it is.
func TestCompareTakesOfAPartWhatItIs(t *testing.T) {
	for _, c := range []struct {
		a, b api.Part
		want int
	}{
		{api.Part{Number: 3, Text: "b"}, api.Part{Number: 3, Text: "a"}, 0},
		{api.Part{IsText: true, Number: 3, Text: "a"}, api.Part{IsText: true, Number: 2, Text: "a"}, 0},
		{api.Part{Number: 3, Text: "b"}, api.Part{Number: 4, Text: "a"}, -1},
		{api.Part{IsText: true, Number: 3, Text: "a"}, api.Part{IsText: true, Number: 2, Text: "b"}, -1},
		{api.Part{Number: 9, Text: "b"}, api.Part{IsText: true, Number: 2, Text: "a"}, -1},
	} {
		if got := order.Compare(tuple(c.a), tuple(c.b)); got != c.want {
			t.Errorf("Compare(%v, %v) = %d", c.a, c.b, got)
		}
		if got := order.Compare(tuple(c.b), tuple(c.a)); got != -c.want {
			t.Errorf("Compare(%v, %v) = %d", c.b, c.a, got)
		}
	}
}

// P1.2: Key.
func TestKey(t *testing.T) {
	long := strings.Repeat("k", api.MaxKey)
	for _, c := range []struct {
		table int
		text  string
		want  api.Errno
	}{
		{0, "", api.OK},
		{1, "ab", api.OK},
		{3, "a\x00b", api.OK},
		{0, long, api.OK},
		{3, strings.Repeat("\x00", api.MaxKey), api.OK},
		{2, strings.Repeat("\xff", api.MaxKey), api.OK},
		{0, long + "k", api.ErrLong},
		{3, strings.Repeat("\x00", api.MaxKey+1), api.ErrLong},
		{4, "", api.ErrArg},
		{-1, "a", api.ErrArg},
		{math.MinInt, "a", api.ErrArg},
		{math.MaxInt, "a", api.ErrArg},
		{4, long + "k", api.ErrArg},
		{-1, long + "k", api.ErrArg},
	} {
		want := ""
		if c.want == api.OK {
			want = string(order.Write(tuple(number(c.table), text(c.text))))
		}
		if k, e := order.Key(c.table, c.text); k != want || e != c.want {
			t.Errorf("Key(%d, %q) = %q %v, not %q %v", c.table, c.text, k, e, want, c.want)
		}
	}
	if k, e := order.Key(1, "ab"); k != "\x01\x80\x00\x00\x00\x00\x00\x00\x01\x02ab\x00\x01" || e != api.OK {
		t.Errorf("Key(1, ab) = %q %v", k, e)
	}
}

// P1.2: Split of what Key tells.
func TestSplit(t *testing.T) {
	for table := range api.MaxTables {
		for n := range api.MaxKey + 1 {
			for _, letter := range []string{"a", "\x00", "\x01", "\xff"} {
				s := strings.Repeat(letter, n)
				k, e := order.Key(table, s)
				if e != api.OK {
					t.Fatalf("Key(%d, %q): %v", table, s, e)
				}
				if gotTable, got, e := order.Split(k); gotTable != table || got != s || e != api.OK {
					t.Errorf("Split(%q) = %d %q %v", k, gotTable, got, e)
				}
			}
		}
	}
}

// P1.2: Split of what is no key.
func TestSplitErrors(t *testing.T) {
	write := func(l ...api.Part) string { return string(order.Write(l)) }
	long := strings.Repeat("k", api.MaxKey+1)
	for _, c := range []struct {
		key  string
		want api.Errno
	}{
		{"", api.ErrBytes},
		{"a", api.ErrBytes},
		{"\x00", api.ErrBytes},
		{"\x01", api.ErrShort},
		{"\x02", api.ErrShort},
		{write(number(1)), api.ErrBytes},
		{write(text("a")), api.ErrBytes},
		{write(text("a"), number(1)), api.ErrBytes},
		{write(number(1), number(1)), api.ErrBytes},
		{write(text("a"), text("a")), api.ErrBytes},
		{write(number(1), text("a"), text("")), api.ErrBytes},
		{write(number(1), text("a"), number(0)), api.ErrBytes},
		{write(number(4), text("a")), api.ErrBytes},
		{write(number(-1), text("a")), api.ErrBytes},
		{write(number(math.MinInt), text("a")), api.ErrBytes},
		{write(number(math.MaxInt), text("a")), api.ErrBytes},
		{write(number(0), text(long)), api.ErrBytes},
		{write(number(3), text(strings.Repeat("\x00", api.MaxKey+1))), api.ErrBytes},
		{write(number(4), text(long)), api.ErrBytes},
		{write(number(1), text("a")) + "\x03", api.ErrBytes},
		{write(number(1), text("a")) + "\x01", api.ErrShort},
		{write(number(4), text("a")) + "\x02", api.ErrShort},
		{write(number(1)) + "\x02\x00\x02", api.ErrBytes},
		{write(number(1)) + "\x02" + long, api.ErrShort},
		{write(number(4)) + "\x02a", api.ErrShort},
	} {
		if n, s, e := order.Split(c.key); n != 0 || s != "" || e != c.want {
			t.Errorf("Split(%q) = %d %q %v, not %v", c.key, n, s, e, c.want)
		}
	}
}

// P1.2: Split of the beginnings of a key.
func TestSplitOfBeginnings(t *testing.T) {
	k, _ := order.Key(2, "a\x00b")
	for i := range len(k) {
		want := api.ErrShort
		if i == 0 || i == 9 {
			want = api.ErrBytes
		}
		if n, s, e := order.Split(k[:i]); n != 0 || s != "" || e != want {
			t.Errorf("Split(%q) = %d %q %v, not %v", k[:i], n, s, e, want)
		}
	}
}

// P1.3: bytes are in the order of their tuples.
func TestBytesAreInOrder(t *testing.T) {
	l := rising()
	for i, a := range l {
		for k, b := range l {
			if got := bytes.Compare(order.Write(a), order.Write(b)); got != sign(i < k, i > k) {
				t.Errorf("bytes of %s, %s: %d", show(a), show(b), got)
			}
		}
	}
}

// P1.3: the same of many tuples, and of ones that go on where another one ends.
func TestBytesOfManyAreInOrder(t *testing.T) {
	r := rand.New(rand.NewSource(2))
	for range 20000 {
		a, b := anyTuple(r), anyTuple(r)
		if r.Intn(2) == 0 {
			b = append(slices.Clone(a[:r.Intn(len(a)+1)]), b...)
		}
		c := order.Compare(a, b)
		if got := bytes.Compare(order.Write(a), order.Write(b)); got != c || order.Compare(b, a) != -c {
			t.Fatalf("%s, %s: Compare %d, back %d, of the bytes %d", show(a), show(b), c, order.Compare(b, a), got)
		}
		if (c == 0) != slices.Equal(a, b) {
			t.Fatalf("%s, %s: Compare %d", show(a), show(b), c)
		}
	}
}

// P1.3: keys are in the order of their tables, and of a table in that of their texts.
func TestKeysAreInOrder(t *testing.T) {
	texts := []string{"", "\x00", "\x00\x00", "\x00\x01", "\x00\xff", "\x01", "a", "a\x00", "a\x00b", "a\x01", "ab", "b", "\xff"}
	last := ""
	for table := range api.MaxTables {
		for _, s := range texts {
			k, e := order.Key(table, s)
			if e != api.OK || k <= last {
				t.Errorf("Key(%d, %q) = %q %v, behind %q", table, s, k, e, last)
			}
			last = k
		}
	}
}

// R4: what is handed in is not changed, its spare room neither; what is answered is new memory.
func TestNothingIsShared(t *testing.T) {
	room := append(make([]api.Part, 0, 4), number(7), text("a\x00b"), number(-9), text("spare"))
	want := slices.Clone(room)
	b := order.Write(room[:2])
	order.Compare(room[:1], room[:3])
	if !slices.Equal(room, want) {
		t.Errorf("the list was changed: %s", show(room))
	}
	other := order.Write(room[:2])
	spoilt := slices.Clone(b)
	for i := range other[:cap(other)] {
		other[:cap(other)][i] = 0
	}
	if !bytes.Equal(b, spoilt) {
		t.Error("two answers of Write share memory")
	}
	full := append(slices.Clone(b), 1, 2, 3)
	kept := slices.Clone(full)
	l, e := order.Read(full[:len(b)])
	if !bytes.Equal(full, kept) {
		t.Errorf("the bytes were changed: %v", full)
	}
	clear(full)
	if e != api.OK || !slices.Equal(l, want[:2]) {
		t.Errorf("what was read hangs on the bytes: %s %v", show(l), e)
	}
}

// R5: what is told hangs on nothing that was told before.
func TestNothingIsKept(t *testing.T) {
	for range 2 {
		for _, g := range golden() {
			order.Read([]byte("\x02ab\x00"))
			order.Split("\x01\x00")
			if b := order.Write(g.l); !bytes.Equal(b, g.b) {
				t.Errorf("Write%s = %v", show(g.l), b)
			}
		}
	}
}
