package block_test

import (
	"bytes"
	"math"
	"math/big"
	"math/rand"
	"slices"
	"strings"
	"testing"

	"duramen/api"
	"duramen/block"
	"duramen/order"
	"duramen/row"
	"duramen/vary"
)

// most is the end of time.
const most = 1 << 40

// great is the greatest number that is read.
const great = 1<<62 - 1

// key is the key of a table and a text, which may be one.
func key(table int, text string) string {
	k, e := order.Key(table, text)
	if e != api.OK {
		panic(e)
	}
	return k
}

// tuple is the bytes of a tuple, as a text.
func tuple(l ...api.Part) string { return string(order.Write(l)) }

func number(n int) api.Part { return api.Part{Number: n} }

func text(s string) api.Part { return api.Part{IsText: true, Text: s} }

func sp(from, to int) api.Span { return api.Span{From: from, To: to} }

func at(branch, epoch, seq int) api.Stamp {
	return api.Stamp{Branch: branch, Epoch: epoch, Seq: seq}
}

// plain is a version in no way at an edge.
func plain() api.Version {
	return api.Version{Key: key(1, "ab"), At: at(3, 40, 500), Span: sp(5, 7), Value: "xyz"}
}

// with is the plain version, changed.
func with(change func(v *api.Version)) api.Version {
	v := plain()
	change(&v)
	return v
}

// keyed is the plain version of another key.
func keyed(k string) api.Version { return with(func(v *api.Version) { v.Key = k }) }

// numbered is n versions of one key, in their order.
func numbered(n int) []api.Version {
	var l []api.Version
	for i := range n {
		l = append(l, with(func(v *api.Version) { v.At.Seq = 100 + i }))
	}
	return l
}

// spread is n versions of keys unlike one another, in their order.
func spread(n int) []api.Version {
	var l []api.Version
	for i := range n {
		l = append(l, keyed(key(1, strings.Repeat("m", i))))
	}
	return l
}

// join is texts, one behind the other, as bytes.
func join(l ...string) []byte { return []byte(strings.Join(l, "")) }

type goldenBlock struct {
	name string
	l    []api.Version
	b    []byte
}

// head is the bytes of a key up to its text.
func head(table byte) string { return "\x01\x80\x00\x00\x00\x00\x00\x00" + string([]byte{table, 2}) }

// golden is blocks and their bytes, written out by hand from the document's words.
func golden() []goldenBlock {
	long := strings.Repeat("\x00", 40)
	return []goldenBlock{
		{
			"one",
			[]api.Version{{Key: key(1, "ab"), At: at(0, 1, 2), Span: sp(5, 7), Value: "xy"}},
			join("\x01", "\x00", "\x0e", head(1), "ab\x00\x01", "\x00\x01\x02\x05\x02\x00", "\x02xy"),
		},
		{
			"one of the least numbers, Gone",
			[]api.Version{{Key: key(0, ""), At: at(0, 1, 1), Span: sp(0, 1), Gone: true}},
			join("\x01", "\x00", "\x0c", head(0), "\x00\x01", "\x00\x01\x01\x00\x01\x01", "\x00"),
		},
		{
			"one key, told apart by each of the four numbers",
			[]api.Version{
				{Key: key(2, "k"), At: at(0, 1, 1), Span: sp(0, 9), Value: "a"},
				{Key: key(2, "k"), At: at(0, 1, 1), Span: sp(3, 5), Gone: true},
				{Key: key(2, "k"), At: at(0, 1, 2), Span: sp(0, 1)},
				{Key: key(2, "k"), At: at(0, 2, 1), Span: sp(0, 1), Value: "\x00"},
				{Key: key(2, "k"), At: at(1, 1, 1), Span: sp(0, 1), Value: "\xff"},
			},
			join("\x05", "\x00", "\x0d", head(2), "k\x00\x01", "\x00\x01\x01\x00\x09\x00", "\x01a",
				"\x0d", "\x00", "\x00\x01\x01\x03\x02\x01", "\x00",
				"\x0d", "\x00", "\x00\x01\x02\x00\x01\x00", "\x00",
				"\x0d", "\x00", "\x00\x02\x01\x00\x01\x00", "\x01\x00",
				"\x0d", "\x00", "\x01\x01\x01\x00\x01\x00", "\x01\xff"),
		},
		{
			"keys that have in common what they may",
			[]api.Version{
				{Key: key(0, "z"), At: at(15, 9, 9), Span: sp(0, 1)},
				{Key: key(1, ""), At: at(0, 1, 1), Span: sp(0, 1)},
				{Key: key(1, "\x00"), At: at(0, 1, 1), Span: sp(0, 1)},
				{Key: key(1, "a"), At: at(0, 1, 1), Span: sp(0, 1)},
				{Key: key(1, "a\x00"), At: at(0, 1, 1), Span: sp(0, 1)},
				{Key: key(1, "ab"), At: at(0, 1, 1), Span: sp(0, 1)},
				{Key: key(1, "abcb"), At: at(0, 1, 1), Span: sp(0, 1)},
				{Key: key(1, "acab"), At: at(0, 1, 1), Span: sp(0, 1)},
			},
			join("\x08", "\x00", "\x0d", head(0), "z\x00\x01", "\x0f\x09\x09\x00\x01\x00", "\x00",
				"\x08", "\x04", "\x01\x02\x00\x01", "\x00\x01\x01\x00\x01\x00", "\x00",
				"\x0b", "\x03", "\xff\x00\x01", "\x00\x01\x01\x00\x01\x00", "\x00",
				"\x0a", "\x03", "a\x00\x01", "\x00\x01\x01\x00\x01\x00", "\x00",
				"\x0c", "\x03", "\xff\x00\x01", "\x00\x01\x01\x00\x01\x00", "\x00",
				"\x0b", "\x03", "b\x00\x01", "\x00\x01\x01\x00\x01\x00", "\x00",
				"\x0c", "\x04", "cb\x00\x01", "\x00\x01\x01\x00\x01\x00", "\x00",
				"\x0b", "\x05", "cab\x00\x01", "\x00\x01\x01\x00\x01\x00", "\x00"),
		},
		{
			"the greatest numbers and longest texts",
			[]api.Version{
				{Key: key(3, long), At: at(15, 10000, 99999), Span: sp(0, most), Value: strings.Repeat("v", 200)},
				{Key: key(3, long), At: at(15, 10000, 100000), Span: sp(most-1, most), Gone: true},
				{Key: key(3, long[1:]+"\x01"), At: at(7, 128, 300), Span: sp(300, 428), Value: strings.Repeat("v", 127)},
			},
			join("\x03", "\x00", "\x5c", head(3), strings.Repeat("\x00\xff", 40), "\x00\x01", "\x0f", "\x90\x4e", "\x9f\x8d\x06", "\x00", "\x80\x80\x80\x80\x80\x20", "\x00", "\xc8\x01", strings.Repeat("v", 200),
				"\x5c", "\x00", "\x0f", "\x90\x4e", "\xa0\x8d\x06", "\xff\xff\xff\xff\xff\x1f", "\x01", "\x01", "\x00",
				"\x58", "\x03", "\x01\x00\x01", "\x07", "\x80\x01", "\xac\x02", "\xac\x02", "\x80\x01", "\x00", "\x7f", strings.Repeat("v", 127)),
		},
	}
}

// edges is versions that may be, each at an edge.
func edges() []api.Version {
	l := []api.Version{plain()}
	for _, k := range []string{key(0, "a"), key(3, "a"), key(0, ""), key(3, strings.Repeat("k", 40)), key(3, strings.Repeat("\x00", 40)), key(1, "\xff\xfe")} {
		l = append(l, keyed(k))
	}
	for _, a := range []api.Stamp{at(0, 40, 500), at(15, 40, 500), at(3, 1, 500), at(3, 10000, 500), at(3, 40, 1), at(3, 40, 100000)} {
		l = append(l, with(func(v *api.Version) { v.At = a }))
	}
	for _, s := range []api.Span{sp(0, 1), sp(0, most), sp(most-1, most), sp(127, 128), sp(128, 256)} {
		l = append(l, with(func(v *api.Version) { v.Span = s }))
	}
	for _, n := range []int{0, 1, 127, 128, 199, 200} {
		l = append(l, with(func(v *api.Version) { v.Value = strings.Repeat("\x80", n) }))
	}
	return append(l, with(func(v *api.Version) { v.Value, v.Gone = "", true }))
}

// wrong is versions that may not be, each in one way alone.
func wrong() []api.Version {
	l := []api.Version{{}}
	for _, k := range []string{
		"", "ab", "\x01", "\x00", key(1, "ab") + "\x00", key(1, "ab") + tuple(number(1)), key(1, "ab")[:13], key(1, "ab")[1:],
		tuple(number(1)), tuple(text("ab")), tuple(text("ab"), number(1)), tuple(number(1), number(2)),
		tuple(number(4), text("ab")), tuple(number(-1), text("ab")), tuple(number(math.MinInt), text("ab")), tuple(number(math.MaxInt), text("ab")),
		tuple(number(1), text(strings.Repeat("k", 41))), tuple(number(1), text(strings.Repeat("k", 5000))), tuple(number(1), text("a"), text("b")),
	} {
		l = append(l, keyed(k))
	}
	for _, a := range []api.Stamp{
		at(-1, 40, 500), at(16, 40, 500), at(math.MinInt, 40, 500), at(math.MaxInt, 40, 500),
		at(3, 0, 500), at(3, -1, 500), at(3, 10001, 500), at(3, math.MaxInt, 500),
		at(3, 40, 0), at(3, 40, -1), at(3, 40, 100001), at(3, 40, math.MinInt),
	} {
		l = append(l, with(func(v *api.Version) { v.At = a }))
	}
	for _, s := range []api.Span{sp(-1, 7), sp(5, 5), sp(7, 5), sp(5, most+1), sp(most, most), sp(most, most+1), sp(0, 0), sp(math.MinInt, math.MaxInt), sp(math.MaxInt, math.MinInt)} {
		l = append(l, with(func(v *api.Version) { v.Span = s }))
	}
	for _, n := range []int{201, 202, 328, 5000} {
		l = append(l, with(func(v *api.Version) { v.Value = strings.Repeat("v", n) }))
	}
	for _, s := range []string{"x", "\x00", strings.Repeat("v", 200)} {
		l = append(l, with(func(v *api.Version) { v.Value, v.Gone = s, true }))
	}
	return l
}

// steps is pairs of versions that may be: of each the second one is behind the first one by one thing, and ahead of it by all that are lesser to the order.
func steps() [][2]api.Version {
	low, high := key(1, "a"), key(1, "b")
	v := func(k string, branch, epoch, seq, from int) api.Version {
		return api.Version{Key: k, At: at(branch, epoch, seq), Span: sp(from, from+9), Value: "x"}
	}
	return [][2]api.Version{
		{v(low, 9, 9, 9, 9), v(high, 0, 1, 1, 0)},
		{v(low, 8, 9, 9, 9), v(low, 9, 1, 1, 0)},
		{v(low, 9, 8, 9, 9), v(low, 9, 9, 1, 0)},
		{v(low, 9, 9, 8, 9), v(low, 9, 9, 9, 0)},
		{v(low, 9, 9, 9, 8), v(low, 9, 9, 9, 9)},
	}
}

// alike is pairs of versions that may be and are alike in the order.
func alike() [][2]api.Version {
	v := plain()
	l := [][2]api.Version{{v, v}}
	for _, change := range []func(v *api.Version){
		func(v *api.Version) { v.Span.To++ },
		func(v *api.Version) { v.Value += "z" },
		func(v *api.Version) { v.Value = "" },
		func(v *api.Version) { v.Value, v.Gone = "", true },
	} {
		w := with(change)
		l = append(l, [2]api.Version{v, w}, [2]api.Version{w, v})
	}
	return l
}

// noBlocks is lists of versions that are no blocks.
func noBlocks() [][]api.Version {
	l := [][]api.Version{nil, {}, numbered(9), numbered(10), numbered(16), spread(9), slices.Repeat([]api.Version{plain()}, 300)}
	for _, v := range wrong() {
		l = append(l, []api.Version{v})
		for i := range 3 {
			l = append(l, slices.Replace(numbered(3), i, i+1, v))
		}
		for i := range 8 {
			l = append(l, slices.Replace(numbered(8), i, i+1, v))
		}
	}
	for _, s := range steps() {
		l = append(l, []api.Version{s[1], s[0]}, []api.Version{s[0], s[1], s[0]}, []api.Version{s[0], s[1], s[1]}, []api.Version{s[0], s[0], s[1]})
	}
	for _, s := range alike() {
		l = append(l, s[:])
	}
	for i := range 7 {
		for _, full := range [][]api.Version{numbered(8), spread(8)} {
			turned := slices.Clone(full)
			turned[i], turned[i+1] = turned[i+1], turned[i]
			twice := slices.Clone(full)
			twice[i+1] = twice[i]
			l = append(l, turned, twice)
		}
	}
	return l
}

// blocks is lists of versions that are blocks.
func blocks() [][]api.Version {
	var l [][]api.Version
	for _, g := range golden() {
		l = append(l, g.l)
	}
	for _, v := range edges() {
		l = append(l, []api.Version{v})
	}
	for _, s := range steps() {
		l = append(l, s[:])
	}
	for n := 1; n <= 8; n++ {
		l = append(l, numbered(n), spread(n))
	}
	return l
}

// write is a block's bytes.
func write(t *testing.T, l []api.Version) []byte {
	t.Helper()
	b, e := block.Write(l)
	if e != api.OK {
		t.Fatalf("Write(%v): %v", l, e)
	}
	return b
}

// P8.1: May of what is a block.
func TestMay(t *testing.T) {
	for _, l := range blocks() {
		if !block.May(l) {
			t.Errorf("May(%v) = false", l)
		}
	}
}

// P8.1: May and Write of what is none.
func TestNoBlocks(t *testing.T) {
	for _, l := range noBlocks() {
		if block.May(l) {
			t.Errorf("May(%v) = true", l)
		}
		if b, e := block.Write(l); e != api.ErrArg || len(b) != 0 {
			t.Errorf("Write(%v) = %v %v", l, b, e)
		}
	}
}

// P8.1: Write, byte by byte.
func TestWrite(t *testing.T) {
	for _, g := range golden() {
		if b, e := block.Write(g.l); e != api.OK || !bytes.Equal(b, g.b) {
			t.Errorf("%s: Write = %v %v, not %v", g.name, b, e, g.b)
		}
	}
}

// P8.1: of versions of one key the rest is empty but of the first one; of keys that go on it is what goes on.
func TestWriteOfCommonKeys(t *testing.T) {
	k := key(1, "ab")
	want := []byte{8}
	for i, v := range numbered(8) {
		n, rest := len(k), ""
		if i == 0 {
			n, rest = 0, k
		}
		want = append(want, put(item{n, rest, [6]int{3, 40, v.At.Seq, 5, 2, 0}, "xyz"})...)
	}
	if b := write(t, numbered(8)); !bytes.Equal(b, want) {
		t.Errorf("Write of one key's = %v, not %v", b, want)
	}
	want = []byte{8}
	for i := range spread(8) {
		n, rest := len(head(1))+i-1, "m\x00\x01"
		if i == 0 {
			n, rest = 0, head(1)+"\x00\x01"
		}
		want = append(want, put(item{n, rest, [6]int{3, 40, 500, 5, 2, 0}, "xyz"})...)
	}
	if b := write(t, spread(8)); !bytes.Equal(b, want) {
		t.Errorf("Write of keys that go on = %v, not %v", b, want)
	}
}

// P8.1: Read of a block's bytes.
func TestRead(t *testing.T) {
	for _, g := range golden() {
		if l, e := block.Read(g.b); e != api.OK || !slices.Equal(l, g.l) {
			t.Errorf("%s: Read = %v %v, not %v", g.name, l, e, g.l)
		}
	}
}

// refuses holds Read's error of b against the one that is wanted.
func refuses(t *testing.T, b []byte, want api.Errno) {
	t.Helper()
	if l, e := block.Read(b); e != want || len(l) != 0 {
		t.Errorf("Read(%v) = %v %v, not %v", b, l, e, want)
	}
}

// P8.1: each beginning of a block's bytes ends too soon, and more behind them is no block.
func TestReadOfMoreAndLess(t *testing.T) {
	refuses(t, nil, api.ErrShort)
	refuses(t, []byte{}, api.ErrShort)
	for _, l := range blocks() {
		b := write(t, l)
		for i := range b {
			refuses(t, b[:i], api.ErrShort)
		}
		for _, tail := range []string{"\x00", "\x01", "\x80", "ab", "\xff\xff\xff\xff\xff\xff\xff\xff\xff", string(b), string(b[1:])} {
			refuses(t, append(slices.Clone(b), tail...), api.ErrBytes)
		}
	}
}

// item is what the bytes tell of one version.
type item struct {
	common  int
	rest    string
	numbers [6]int
	value   string
}

// put is an item's bytes.
func put(x item) []byte {
	b := vary.Text(vary.Put(nil, x.common), x.rest)
	return vary.Text(vary.Put(b, x.numbers[:]...), x.value)
}

// putAll is the bytes of a number, and of items.
func putAll(n int, l ...item) []byte {
	b := vary.Put(nil, n)
	for _, x := range l {
		b = append(b, put(x)...)
	}
	return b
}

// three is the items of a block of three: of a key, of the same one, and of another one.
func three() []item {
	return []item{
		{0, key(1, "ab"), [6]int{3, 40, 5, 5, 2, 0}, "x"},
		{14, "", [6]int{3, 40, 6, 5, 2, 1}, ""},
		{12, "c\x00\x01", [6]int{3, 40, 5, 5, 2, 0}, "yz"},
	}
}

// P8.1: what three tells is a block.
func TestReadOfItems(t *testing.T) {
	want := []api.Version{
		{Key: key(1, "ab"), At: at(3, 40, 5), Span: sp(5, 7), Value: "x"},
		{Key: key(1, "ab"), At: at(3, 40, 6), Span: sp(5, 7), Gone: true},
		{Key: key(1, "abc"), At: at(3, 40, 5), Span: sp(5, 7), Value: "yz"},
	}
	if l, e := block.Read(putAll(3, three()...)); e != api.OK || !slices.Equal(l, want) {
		t.Errorf("Read = %v %v, not %v", l, e, want)
	}
}

// changed is three with one of its items changed.
func changed(i int, change func(x *item)) []item {
	l := three()
	change(&l[i])
	return l
}

// fields is the bytes of three, a number or a text each.
func fields() []string {
	l := []string{"\x03"}
	for _, x := range three() {
		l = append(l, string(vary.Put(nil, x.common)), string(vary.Text(nil, x.rest)))
		for _, n := range x.numbers {
			l = append(l, string(vary.Put(nil, n)))
		}
		l = append(l, string(vary.Text(nil, x.value)))
	}
	return l
}

// P8.1: a bad number in each of the places, of how many there are, of a number, of a text's length; whatever is wrong behind it.
func TestReadOfBadNumbers(t *testing.T) {
	fine := fields()
	for place := range fine {
		for _, bad := range []string{"\x80\x00", "\x81\x80\x00", strings.Repeat("\x80", 9), strings.Repeat("\xff", 9), strings.Repeat("\x80", 8) + "\x40", strings.Repeat("\xff", 8) + "\x7f"} {
			for _, tail := range []string{"", "\x03", strings.Join(fine[place+1:], ""), "\xc9\x01", strings.Repeat("\x65", 300)} {
				refuses(t, join(strings.Join(fine[:place], ""), bad, tail), api.ErrBytes)
			}
		}
		for _, cut := range []string{"", "\x80", "\xff", strings.Repeat("\x80", 8), strings.Repeat("\xff", 8)} {
			refuses(t, join(strings.Join(fine[:place], ""), cut), api.ErrShort)
		}
	}
}

// P8.1: texts that are too long, and texts that end too soon, in each of the places.
func TestReadOfLongTexts(t *testing.T) {
	fine := fields()
	for i := range 3 {
		for _, place := range []int{2 + 9*i, 9 + 9*i} {
			ahead := strings.Join(fine[:place], "")
			for _, long := range []string{"\xc9\x01", "\xca\x01", "\xff\xff\xff\xff\xff\xff\xff\xff\x3f"} {
				for _, tail := range []string{"", "x", strings.Repeat("k", 200), strings.Repeat("k", 201), strings.Repeat("k", 201) + strings.Join(fine[place+1:], ""), "\x80\x00"} {
					refuses(t, join(ahead, long, tail), api.ErrLong)
				}
			}
			for _, short := range []string{"\x01", "\xc8\x01", "\xc8\x01" + strings.Repeat("k", 199)} {
				refuses(t, join(ahead, short), api.ErrShort)
			}
		}
	}
	// A rest of up to 200 bytes is read, though no key is so long.
	for i := range 3 {
		for _, n := range []int{93, 100, 101, 200} {
			b := putAll(3, changed(i, func(x *item) { x.rest = strings.Repeat("k", n) })...)
			refuses(t, b, api.ErrBytes)
			refuses(t, b[:len(b)-1], api.ErrShort)
		}
		refuses(t, putAll(3, changed(i, func(x *item) { x.rest = strings.Repeat("k", 201) })...), api.ErrLong)
		refuses(t, putAll(3, changed(i, func(x *item) { x.value = strings.Repeat("v", 201) })...), api.ErrLong)
	}
}

// changes is what makes an item, whichever of three it is, one of no block, though all its bytes are there.
func changes() []func(x *item) {
	l := []func(x *item){
		func(x *item) { x.common++ },
		func(x *item) { x.common = 13 },
		func(x *item) { x.common = 15 },
		func(x *item) { x.common = 93 },
		func(x *item) { x.common = great },
		func(x *item) { x.rest += "\x00" },
		func(x *item) { x.rest += tuple(number(1)) },
		func(x *item) { x.rest = "\x00" + x.rest },
		func(x *item) { x.rest = "ab" },
		func(x *item) { x.rest = key(1, "ab")[:13] },
		func(x *item) { x.rest = tuple(number(4), text("ab")) },
		func(x *item) { x.rest = tuple(number(1), text(strings.Repeat("k", 41))) },
		func(x *item) { x.numbers[5], x.value = 1, "v" },
		func(x *item) { x.numbers[5], x.value = 1, strings.Repeat("v", 200) },
	}
	for place, wrong := range [6][]int{
		{16, 17, 128, great},
		{0, 10001, great},
		{0, 100001, great},
		{most - 1, most, great},
		{0, most - 4, most, most + 1, great},
		{2, 3, 127, 128, 256, 257, great},
	} {
		for _, n := range wrong {
			l = append(l, func(x *item) { x.numbers[place] = n })
		}
	}
	return append(l,
		func(x *item) { x.numbers[3], x.numbers[4] = great, great },
		func(x *item) { x.numbers[3], x.numbers[4] = great, 1 },
	)
}

// P8.1: bytes that are read and are no block's; chapter 2's errors are ahead of ErrBytes, wherever they stand.
func TestReadOfWhatMayNotBe(t *testing.T) {
	for i := range 3 {
		for _, change := range changes() {
			b := putAll(3, changed(i, change)...)
			refuses(t, b, api.ErrBytes)
			refuses(t, append(slices.Clone(b), 0), api.ErrBytes)
			for n := range b {
				refuses(t, b[:n], api.ErrShort)
			}
			for k := i; k < 3; k++ {
				l := changed(i, change)
				l[k].value = strings.Repeat("v", 201)
				refuses(t, putAll(3, l...), api.ErrLong)
			}
			refuses(t, append(putAll(4, changed(i, change)...), 128, 0), api.ErrBytes)
			refuses(t, append(putAll(4, changed(i, change)...), 0, 201, 1), api.ErrLong)
		}
	}
}

// P8.1: as many bytes are told to be in common as there are, no fewer, no more.
func TestReadOfCommonBytes(t *testing.T) {
	for n := range 93 {
		one := three()[:1]
		one[0].common = n
		if n > 0 {
			refuses(t, putAll(1, one...), api.ErrBytes)
		}
		same := three()[:2]
		same[1].common, same[1].rest = n, key(1, "ab")[min(n, 14):]
		other := three()
		other[2].common, other[2].rest = n, key(1, "abc")[min(n, 15):]
		for _, c := range []struct {
			l    []item
			fine int
		}{{same, 14}, {other, 12}} {
			if n != c.fine {
				refuses(t, putAll(len(c.l), c.l...), api.ErrBytes)
			} else if l, e := block.Read(putAll(len(c.l), c.l...)); e != api.OK || len(l) != len(c.l) {
				t.Errorf("Read with %d in common = %v %v", n, l, e)
			}
		}
	}
	// What goes on behind the whole of the key ahead.
	l := three()
	l[2].common, l[2].rest = 14, "c\x00\x01"
	refuses(t, putAll(3, l...), api.ErrBytes)
}

// P8.1: versions that are not in order, or alike, are no block.
func TestReadOfNoOrder(t *testing.T) {
	item := func(k string, n, seq int) item { return item{n, k[n:], [6]int{3, 40, seq, 5, 2, 0}, "x"} }
	a, b := key(1, "a"), key(1, "b")
	fine := putAll(3, item(a, 0, 5), item(a, 13, 6), item(b, 10, 1))
	if l, e := block.Read(fine); e != api.OK || len(l) != 3 {
		t.Errorf("Read = %v %v", l, e)
	}
	refuses(t, putAll(2, item(b, 0, 5), item(a, 10, 6)), api.ErrBytes)
	refuses(t, putAll(2, item(a, 0, 6), item(a, 13, 5)), api.ErrBytes)
	refuses(t, putAll(2, item(a, 0, 5), item(a, 13, 5)), api.ErrBytes)
	refuses(t, putAll(3, item(a, 0, 5), item(b, 10, 5), item(a, 10, 6)), api.ErrBytes)
	refuses(t, putAll(3, item(a, 0, 5), item(b, 10, 5), item(b, 13, 5)), api.ErrBytes)
}

// P8.1: how many there are is 1 to 8; what is told to be there is read all the same.
func TestReadOfHowMany(t *testing.T) {
	items := func(n int) []item {
		l := three()[:1]
		for i := 1; i < n; i++ {
			l = append(l, item{14, "", [6]int{3, 40, 5 + i, 5, 2, 0}, "x"})
		}
		return l[:min(n, len(l))]
	}
	for n := range 20 {
		b := putAll(n, items(n)...)
		l, e := block.Read(b)
		if n == 0 || n > 8 {
			refuses(t, b, api.ErrBytes)
		} else if e != api.OK || len(l) != n {
			t.Errorf("Read of %d = %v %v", n, l, e)
		}
		for _, more := range []int{1, 2, 100, great - 20} {
			refuses(t, putAll(n+more, items(n)...), api.ErrShort)
			refuses(t, append(putAll(n+more, items(n)...), 128, 0), api.ErrBytes)
			refuses(t, append(putAll(n+more, items(n)...), 14, 201, 1), api.ErrLong)
		}
		for less := range n {
			refuses(t, putAll(less, items(n)...), api.ErrBytes)
		}
		if n > 0 {
			refuses(t, putAll(0, items(n)...), api.ErrBytes)
		}
	}
	for _, tail := range []string{"\x00", "\x80", "\xc9\x01"} {
		refuses(t, join("\x00", tail), api.ErrBytes)
	}
}

// P8.1: a block more than may be is refused, also where the last ones are such as the eighth.
func TestReadOfNine(t *testing.T) {
	eight := write(t, numbered(8))
	last := put(item{14, "", [6]int{3, 40, 107, 5, 2, 0}, "xyz"})
	next := put(item{14, "", [6]int{3, 40, 108, 5, 2, 0}, "xyz"})
	if !bytes.HasSuffix(eight, last) {
		t.Fatalf("%v does not end with %v", eight, last)
	}
	for _, n := range []byte{8, 9, 10} {
		for _, behind := range [][]byte{last, next} {
			b := append([]byte{n}, eight[1:]...)
			want := api.ErrBytes
			if b = append(b, behind...); n == 10 {
				want = api.ErrShort
			}
			refuses(t, b, want)
		}
	}
}

// R1: Read of many ends, whose keys would grow and grow.
func TestReadOfGrowingKeys(t *testing.T) {
	const n = 30000
	b := vary.Put(nil, n)
	for i := range n {
		b = append(b, put(item{200 * i, strings.Repeat("k", 200), [6]int{3, 40, 5, 5, 2, 0}, ""})...)
	}
	refuses(t, b, api.ErrBytes)
	refuses(t, b[:len(b)-1], api.ErrShort)
}

// take is the number that b begins with, said another way than package vary says it: all bytes up to the last one are gathered, then weighed.
func take(b []byte) (int, []byte, api.Errno) {
	i := slices.IndexFunc(b[:min(9, len(b))], func(c byte) bool { return c < 128 })
	if i < 0 && len(b) >= 9 {
		return 0, nil, api.ErrBytes
	}
	if i < 0 {
		return 0, nil, api.ErrShort
	}
	n := new(big.Int)
	for k := i; k >= 0; k-- {
		n.Add(n.Lsh(n, 7), big.NewInt(int64(b[k]&127)))
	}
	if n.BitLen() > 62 || i > 0 && b[i] == 0 {
		return 0, nil, api.ErrBytes
	}
	return int(n.Int64()), b[i+1:], api.OK
}

// takeText is the text that b begins with.
func takeText(b []byte) (string, []byte, api.Errno) {
	n, b, e := take(b)
	switch {
	case e != api.OK:
		return "", nil, e
	case n > 200:
		return "", nil, api.ErrLong
	case n > len(b):
		return "", nil, api.ErrShort
	}
	return string(b[:n]), b[n:], api.OK
}

// takeItem is the item that b begins with.
func takeItem(b []byte) (x item, rest []byte, e api.Errno) {
	if x.common, b, e = take(b); e != api.OK {
		return x, nil, e
	}
	if x.rest, b, e = takeText(b); e != api.OK {
		return x, nil, e
	}
	for i := range x.numbers {
		if x.numbers[i], b, e = take(b); e != api.OK {
			return x, nil, e
		}
	}
	x.value, b, e = takeText(b)
	return x, b, e
}

// readSlowly is Read, said another way: rule by rule, of all that was taken.
func readSlowly(b []byte) ([]api.Version, api.Errno) {
	n, b, e := take(b)
	if e != api.OK {
		return nil, e
	}
	var items []item
	for range n {
		var x item
		if x, b, e = takeItem(b); e != api.OK {
			return nil, e
		}
		items = append(items, x)
	}
	if n < 1 || n > 8 || len(b) > 0 {
		return nil, api.ErrBytes
	}
	var l []api.Version
	for i, x := range items {
		ahead := ""
		if i > 0 {
			ahead = l[i-1].Key
		}
		if x.common > len(ahead) || x.common < len(ahead) && strings.HasPrefix(x.rest, ahead[x.common:x.common+1]) || !mayBe(x.numbers, x.value) {
			return nil, api.ErrBytes
		}
		k := ahead[:x.common] + x.rest
		if !isKey(k) || i > 0 && !isBehind(k, x.numbers, ahead, items[i-1].numbers) {
			return nil, api.ErrBytes
		}
		l = append(l, api.Version{Key: k, At: at(x.numbers[0], x.numbers[1], x.numbers[2]), Span: sp(x.numbers[3], x.numbers[3]+x.numbers[4]), Value: x.value, Gone: x.numbers[5] == 1})
	}
	return l, api.OK
}

// mayBe tells whether the numbers and the value are a version's.
func mayBe(n [6]int, value string) bool {
	if n[0] > 15 || n[1] == 0 || n[1] > 10000 || n[2] == 0 || n[2] > 100000 {
		return false
	}
	return n[3] < most && n[4] > 0 && n[4] <= most-n[3] && (n[5] == 0 || n[5] == 1 && value == "")
}

// isKey tells whether k is the key of its table and text.
func isKey(k string) bool {
	table, text, e := order.Split(k)
	if e != api.OK {
		return false
	}
	again, e := order.Key(table, text)
	return e == api.OK && again == k
}

// isBehind tells whether the key a and its numbers are behind the key b and its.
func isBehind(a string, x [6]int, b string, y [6]int) bool {
	if a != b {
		return a > b
	}
	return slices.Compare(x[:4], y[:4]) > 0
}

// checkRead holds Read of any bytes against readSlowly, and what is read against what is written.
func checkRead(t *testing.T, b []byte) {
	t.Helper()
	l, e := block.Read(b)
	want, wantE := readSlowly(b)
	if e != wantE || !slices.Equal(l, want) {
		t.Fatalf("Read(%v) = %v %v, not %v %v", b, l, e, want, wantE)
	}
	if e == api.OK && !bytes.Equal(write(t, l), b) {
		t.Fatalf("%v is read, but %v is not written so", b, l)
	}
}

// P8.3: what is written is read as the same.
func TestWrittenIsRead(t *testing.T) {
	for _, want := range blocks() {
		if l, e := block.Read(write(t, want)); e != api.OK || !slices.Equal(l, want) {
			t.Errorf("%v is read as %v: %v", want, l, e)
		}
	}
	r := rand.New(rand.NewSource(1))
	for range 5000 {
		want := anyBlock(r)
		b := write(t, want)
		if l, e := block.Read(b); e != api.OK || !slices.Equal(l, want) {
			t.Fatalf("%v is read as %v: %v", want, l, e)
		}
		if slow, e := readSlowly(b); e != api.OK || !slices.Equal(slow, want) {
			t.Fatalf("%v is put as %v, which is %v by the document's words: %v", want, b, slow, e)
		}
	}
}

// P8.3: each byte of a block's, spoilt in all ways, left out, or put twice, is told as it is: no other bytes are read.
func TestReadOfEachByteSpoilt(t *testing.T) {
	for _, g := range golden() {
		for i := range g.b {
			for c := range 256 {
				b := slices.Clone(g.b)
				b[i] = byte(c)
				checkRead(t, b)
			}
			for _, c := range []byte{g.b[i], 0, 1, 8, 127, 128, 255} {
				checkRead(t, slices.Insert(slices.Clone(g.b), i, c))
			}
			checkRead(t, slices.Delete(slices.Clone(g.b), i, i+1))
		}
	}
}

// P8.1, P8.3: spoilt, cut and inserted bytes are told as they are.
func TestReadOfSpoiltBytes(t *testing.T) {
	r := rand.New(rand.NewSource(2))
	for range 20000 {
		b := write(t, anyBlock(r))
		for range 1 + r.Intn(3) {
			i := r.Intn(len(b))
			switch r.Intn(4) {
			case 0:
				b[i] = byte(r.Intn(256))
			case 1:
				b[i]++
			case 2:
				b = slices.Insert(b, i, []byte(anyText(r, 1+r.Intn(9)))...)
			case 3:
				if len(b) > 1 {
					b = slices.Delete(b, i, i+1)
				}
			}
		}
		checkRead(t, b)
		checkRead(t, b[:r.Intn(len(b)+1)])
	}
}

// P8.1, P8.3: items spoilt one number or text at a time, their bytes whole.
func TestReadOfSpoiltItems(t *testing.T) {
	r := rand.New(rand.NewSource(3))
	read := 0
	for range 20000 {
		n, l := taken(t, write(t, anyBlock(r)))
		for range r.Intn(3) {
			x := &l[r.Intn(len(l))]
			switch r.Intn(6) {
			case 0:
				x.common = max(0, x.common+r.Intn(5)-2)
			case 1:
				x.rest = anyText(r, r.Intn(4)) + x.rest[min(len(x.rest), r.Intn(3)):]
			case 2:
				i := r.Intn(6)
				x.numbers[i] = max(0, x.numbers[i]+r.Intn(3)-1)
			case 3:
				x.value = anyText(r, 198+r.Intn(4))
			case 4:
				n = max(0, n+r.Intn(3)-1)
			case 5:
				i, k := r.Intn(len(l)), r.Intn(len(l))
				l[i], l[k] = l[k], l[i]
			}
		}
		b := putAll(n, l...)
		checkRead(t, b)
		if _, e := block.Read(b); e == api.OK {
			read++
		}
	}
	if read < 1000 || read > 19000 {
		t.Errorf("%d of 20000 are read", read)
	}
}

// taken is the number and the items of a block's bytes.
func taken(t *testing.T, b []byte) (int, []item) {
	t.Helper()
	n, b, e := take(b)
	var l []item
	for range n {
		var x item
		if x, b, e = takeItem(b); e != api.OK {
			t.Fatal(e)
		}
		l = append(l, x)
	}
	return n, l
}

// anyNumber is a number from least to most, often one of the two.
func anyNumber(r *rand.Rand, least, most int) int {
	switch r.Intn(4) {
	case 0:
		return least
	case 1:
		return most
	case 2:
		return min(most, least+r.Intn(3))
	}
	return least + r.Intn(most-least+1)
}

func anyText(r *rand.Rand, n int) string {
	b := make([]byte, n)
	for i := range b {
		b[i] = "\x00\x01\x02ab\x7f\x80\xff"[r.Intn(8)]
	}
	return string(b)
}

// anyVersion is a version that may be.
func anyVersion(r *rand.Rand) api.Version {
	from := anyNumber(r, 0, most-1)
	v := api.Version{
		Key:  key(r.Intn(4), anyText(r, anyNumber(r, 0, 40))),
		At:   at(r.Intn(16), anyNumber(r, 1, 10000), anyNumber(r, 1, 100000)),
		Span: sp(from, anyNumber(r, from+1, most)),
		Gone: r.Intn(4) == 0,
	}
	if !v.Gone {
		v.Value = anyText(r, anyNumber(r, 0, 200))
	}
	return v
}

// anyBlock is a block, some of whose versions are of one key, or of keys that begin alike.
func anyBlock(r *rand.Rand) []api.Version {
	l := []api.Version{anyVersion(r)}
	for range r.Intn(8) {
		v := anyVersion(r)
		ahead := l[len(l)-1]
		table, text, _ := order.Split(ahead.Key)
		switch r.Intn(4) {
		case 0:
			v.Key = ahead.Key
		case 1:
			v.Key, v.At = ahead.Key, ahead.At
		case 2:
			v.Key = key(table, text[:r.Intn(len(text)+1)])
		}
		l = append(l, v)
	}
	slices.SortFunc(l, row.Compare)
	return slices.CompactFunc(l, func(a, b api.Version) bool { return row.Compare(a, b) == 0 })
}

// versions is n of them, in no order, which may not be.
func versions(n int) []api.Version {
	var l []api.Version
	for i := range n {
		l = append(l, api.Version{Key: strings.Repeat("k", i%5), At: at(n-i, -i, i), Span: sp(i, -i), Value: "v", Gone: i%2 == 0})
	}
	return l
}

// P8.2: Cut, of each length.
func TestCut(t *testing.T) {
	for n := range 50 {
		for _, l := range [][]api.Version{versions(n), numbered(n), slices.Repeat([]api.Version{plain()}, n)} {
			got := block.Cut(l)
			if want := (n + 7) / 8; len(got) != want {
				t.Fatalf("Cut of %d: %d pieces, not %d", n, len(got), want)
			}
			for i, piece := range got {
				if want := l[8*i : min(8*i+8, n)]; !slices.Equal(piece, want) {
					t.Errorf("Cut of %d: the piece %d is %v, not %v", n, i, piece, want)
				}
			}
		}
	}
	for _, l := range [][]api.Version{nil, {}} {
		if got := block.Cut(l); len(got) != 0 {
			t.Errorf("Cut of nothing = %v", got)
		}
	}
}

// P8.2: Cut of many.
func TestCutOfMany(t *testing.T) {
	l := versions(api.MaxRows + 3)
	got := block.Cut(l)
	if len(got) != api.MaxRows/8+1 || len(got[len(got)-1]) != 3 || !slices.Equal(slices.Concat(got...), l) {
		t.Errorf("Cut of many: %d pieces", len(got))
	}
}

// P8.2, P8.3: of versions in order each piece is a block, and these are read as they were.
func TestPiecesAreBlocks(t *testing.T) {
	r := rand.New(rand.NewSource(4))
	for range 300 {
		var l []api.Version
		for range r.Intn(6) {
			l = append(l, anyBlock(r)...)
		}
		slices.SortFunc(l, row.Compare)
		l = slices.CompactFunc(l, func(a, b api.Version) bool { return row.Compare(a, b) == 0 })
		var again []api.Version
		for _, piece := range block.Cut(l) {
			got, e := block.Read(write(t, piece))
			if e != api.OK {
				t.Fatal(e)
			}
			again = append(again, got...)
		}
		if !slices.Equal(again, l) {
			t.Fatalf("%v in pieces is read as %v", l, again)
		}
	}
}

// R4: neither what is handed in nor its spare room is changed.
func TestNothingIsChanged(t *testing.T) {
	b := golden()[2].b
	room := append(slices.Clone(b), "and spare room behind it"...)
	kept := slices.Clone(room)
	block.Read(room[:len(b)])
	block.Read(room)
	if !bytes.Equal(room, kept) {
		t.Errorf("%v was changed to %v", kept, room)
	}
	for _, l := range [][]api.Version{numbered(20), versions(20), {plain(), {}, plain()}} {
		keptList := slices.Clone(l)
		for n := range len(l) + 1 {
			block.May(l[:n])
			block.Write(l[:n])
			block.Cut(l[:n])
		}
		if !slices.Equal(l, keptList) {
			t.Errorf("%v was changed to %v", keptList, l)
		}
	}
}

// R4: Cut's pieces are new memory, each for itself, their spare room too.
func TestPiecesAreNewMemory(t *testing.T) {
	for _, n := range []int{1, 7, 8, 9, 16, 20} {
		l := versions(n)
		kept := slices.Clone(l)
		got := block.Cut(l)
		for i := range got {
			for k := range got {
				if k != i {
					clear(got[k][:cap(got[k])])
				}
			}
			if want := kept[8*i : min(8*i+8, n)]; !slices.Equal(got[i], want) {
				t.Errorf("the piece %d of %d shares memory with another one: %v", i, n, got[i])
			}
			got = block.Cut(l)
		}
		for _, piece := range got {
			clear(piece[:cap(piece)])
		}
		if !slices.Equal(l, kept) {
			t.Errorf("the pieces of %d share memory with them", n)
		}
		got = block.Cut(l)
		clear(l)
		if !slices.Equal(slices.Concat(got...), kept) {
			t.Errorf("the pieces of %d hang on what was handed in", n)
		}
	}
}

// R4: what is written and read is new memory at each call, and hangs on nothing that was handed in.
func TestAnswersAreNewMemory(t *testing.T) {
	l := slices.Clone(golden()[2].l)
	one, two := write(t, l), write(t, l)
	clear(one[:cap(one)])
	if !bytes.Equal(two, golden()[2].b) || !bytes.Equal(write(t, l), golden()[2].b) {
		t.Errorf("two answers of Write share memory")
	}
	b := slices.Clone(golden()[2].b)
	first, _ := block.Read(b)
	second, _ := block.Read(b)
	clear(first[:cap(first)])
	clear(b)
	if !slices.Equal(second, l) {
		t.Errorf("Read = %v, behind a change of an answer and of what was handed in", second)
	}
}
