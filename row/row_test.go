package row_test

import (
	"bytes"
	"math"
	"math/big"
	"math/rand"
	"slices"
	"strings"
	"testing"

	"duramen/api"
	"duramen/order"
	"duramen/row"
	"duramen/vary"
)

// most is the end of time.
const most = 1 << 40

// key is the key of a table and a text, which may be one.
func key(table int, text string) string {
	k, e := order.Key(table, text)
	if e != api.OK {
		panic(e)
	}
	return k
}

// tuple is the bytes of a tuple, as a text.
func tuple(l ...api.Part) string { return string(order.Write(l)) }

func number(n int) api.Part { return api.Part{Number: n} }

func text(s string) api.Part { return api.Part{IsText: true, Text: s} }

func sp(from, to int) api.Span { return api.Span{From: from, To: to} }

func at(branch, epoch, seq int) api.Stamp {
	return api.Stamp{Branch: branch, Epoch: epoch, Seq: seq}
}

// plain is a version in no way at an edge.
func plain() api.Version {
	return api.Version{Key: key(1, "ab"), At: at(3, 40, 500), Span: sp(5, 7), Value: "xyz"}
}

// with is the plain version, changed.
func with(change func(v *api.Version)) api.Version {
	v := plain()
	change(&v)
	return v
}

// join is texts and bytes, one behind the other.
func join(l ...string) []byte { return []byte(strings.Join(l, "")) }

type goldenVersion struct {
	v api.Version
	b []byte
}

// golden is versions and their bytes, written out by hand from the document's words.
func golden() []goldenVersion {
	return []goldenVersion{
		{
			api.Version{Key: key(1, "ab"), At: at(0, 1, 2), Span: sp(5, 7), Value: "xy"},
			join("\x00\x01\x02\x05\x02\x00", "\x0e", "\x01\x80\x00\x00\x00\x00\x00\x00\x01\x02ab\x00\x01", "\x02xy"),
		},
		{
			api.Version{Key: key(0, ""), At: at(0, 1, 1), Span: sp(0, 1)},
			join("\x00\x01\x01\x00\x01\x00", "\x0c", "\x01\x80\x00\x00\x00\x00\x00\x00\x00\x02\x00\x01", "\x00"),
		},
		{
			api.Version{Key: key(0, ""), At: at(0, 1, 1), Span: sp(0, 1), Gone: true},
			join("\x00\x01\x01\x00\x01\x01", "\x0c", "\x01\x80\x00\x00\x00\x00\x00\x00\x00\x02\x00\x01", "\x00"),
		},
		{
			api.Version{Key: key(3, "\x00"), At: at(15, 10000, 100000), Span: sp(0, most), Gone: true},
			join("\x0f", "\x90\x4e", "\xa0\x8d\x06", "\x00", "\x80\x80\x80\x80\x80\x20", "\x01", "\x0e", "\x01\x80\x00\x00\x00\x00\x00\x00\x03\x02\x00\xff\x00\x01", "\x00"),
		},
		{
			api.Version{Key: key(2, strings.Repeat("\x00", 40)), At: at(7, 128, 300), Span: sp(most-1, most), Value: strings.Repeat("v", 200)},
			join("\x07", "\x80\x01", "\xac\x02", "\xff\xff\xff\xff\xff\x1f", "\x01", "\x00", "\x5c", "\x01\x80\x00\x00\x00\x00\x00\x00\x02\x02", strings.Repeat("\x00\xff", 40), "\x00\x01", "\xc8\x01", strings.Repeat("v", 200)),
		},
		{
			api.Version{Key: key(2, strings.Repeat("\xff", 40)), At: at(1, 127, 16384), Span: sp(300, 428), Value: "\x00\xff"},
			join("\x01", "\x7f", "\x80\x80\x01", "\xac\x02", "\x80\x01", "\x00", "\x34", "\x01\x80\x00\x00\x00\x00\x00\x00\x02\x02", strings.Repeat("\xff", 40), "\x00\x01", "\x02\x00\xff"),
		},
	}
}

// edges is versions that may be, each at an edge.
func edges() []api.Version {
	l := []api.Version{plain()}
	for _, k := range []string{key(0, "a"), key(3, "a"), key(0, ""), key(3, strings.Repeat("k", 40)), key(3, strings.Repeat("\x00", 40)), key(1, "\xff\xfe")} {
		l = append(l, with(func(v *api.Version) { v.Key = k }))
	}
	for _, a := range []api.Stamp{at(0, 40, 500), at(15, 40, 500), at(3, 1, 500), at(3, 10000, 500), at(3, 40, 1), at(3, 40, 100000)} {
		l = append(l, with(func(v *api.Version) { v.At = a }))
	}
	for _, s := range []api.Span{sp(0, 1), sp(0, most), sp(most-1, most), sp(127, 128), sp(128, 256)} {
		l = append(l, with(func(v *api.Version) { v.Span = s }))
	}
	for _, n := range []int{0, 1, 127, 128, 199, 200} {
		l = append(l, with(func(v *api.Version) { v.Value = strings.Repeat("\x80", n) }))
	}
	return append(l, with(func(v *api.Version) { v.Value, v.Gone = "", true }))
}

// wrong is versions that may not be, each in one way alone.
func wrong() []api.Version {
	l := []api.Version{{}}
	for _, k := range []string{
		"", "ab", "\x01", "\x00", key(1, "ab") + "\x00", key(1, "ab") + tuple(number(1)), key(1, "ab")[:13], key(1, "ab")[1:],
		tuple(number(1)), tuple(text("ab")), tuple(text("ab"), number(1)), tuple(number(1), number(2)), tuple(text("a"), text("b")),
		tuple(number(4), text("ab")), tuple(number(-1), text("ab")), tuple(number(math.MinInt), text("ab")), tuple(number(math.MaxInt), text("ab")),
		tuple(number(1), text(strings.Repeat("k", 41))), tuple(number(1), text(strings.Repeat("\x00", 41))), tuple(number(1), text(strings.Repeat("k", 5000))),
		tuple(number(1), text("a"), text("b")), tuple(number(1), number(1), text("b")),
	} {
		l = append(l, with(func(v *api.Version) { v.Key = k }))
	}
	for _, a := range []api.Stamp{
		at(-1, 40, 500), at(16, 40, 500), at(math.MinInt, 40, 500), at(math.MaxInt, 40, 500),
		at(3, 0, 500), at(3, -1, 500), at(3, 10001, 500), at(3, math.MinInt, 500), at(3, math.MaxInt, 500),
		at(3, 40, 0), at(3, 40, -1), at(3, 40, 100001), at(3, 40, math.MinInt), at(3, 40, math.MaxInt),
	} {
		l = append(l, with(func(v *api.Version) { v.At = a }))
	}
	for _, s := range []api.Span{sp(-1, 7), sp(5, 5), sp(7, 5), sp(5, most+1), sp(most, most), sp(most, most+1), sp(0, 0), sp(math.MinInt, math.MaxInt), sp(math.MaxInt, math.MinInt), sp(-1, -1)} {
		l = append(l, with(func(v *api.Version) { v.Span = s }))
	}
	for _, n := range []int{201, 202, 328, 5000} {
		l = append(l, with(func(v *api.Version) { v.Value = strings.Repeat("v", n) }))
	}
	for _, s := range []string{"x", "\x00", strings.Repeat("v", 200), strings.Repeat("v", 201)} {
		l = append(l, with(func(v *api.Version) { v.Value, v.Gone = s, true }))
	}
	return l
}

// put is the bytes of what may be no version, by the document's words.
func put(branch, epoch, seq, from, size, gone int, key, value string) []byte {
	return vary.Text(vary.Put(nil, branch, epoch, seq, from, size, gone), key, value)
}

// write is v's bytes, which may be.
func write(t *testing.T, v api.Version) []byte {
	t.Helper()
	b, e := row.Write(v)
	if e != api.OK {
		t.Fatalf("Write(%v): %v", v, e)
	}
	return b
}

// P6.1: May.
func TestMay(t *testing.T) {
	for _, g := range golden() {
		if !row.May(g.v) {
			t.Errorf("May(%v) = false", g.v)
		}
	}
	for _, v := range edges() {
		if !row.May(v) {
			t.Errorf("May(%v) = false", v)
		}
	}
	for _, v := range wrong() {
		if row.May(v) {
			t.Errorf("May(%v) = true", v)
		}
	}
}

// P6.1: Write, byte by byte.
func TestWrite(t *testing.T) {
	for _, g := range golden() {
		if b, e := row.Write(g.v); e != api.OK || !bytes.Equal(b, g.b) {
			t.Errorf("Write(%v) = %v %v, not %v", g.v, b, e, g.b)
		}
	}
}

// P6.1: Write of what may not be.
func TestWriteRefuses(t *testing.T) {
	for _, v := range wrong() {
		if b, e := row.Write(v); e != api.ErrArg || len(b) != 0 {
			t.Errorf("Write(%v) = %v %v", v, b, e)
		}
	}
}

// P6.1: Read of a version's bytes, whatever stands behind.
func TestRead(t *testing.T) {
	for _, g := range golden() {
		for _, tail := range []string{"", "\x00", "\x80", "ab", "\xff\xff\xff\xff\xff\xff\xff\xff\xff", string(g.b), strings.Repeat("z", 70000)} {
			v, rest, e := row.Read(join(string(g.b), tail))
			if e != api.OK || v != g.v || string(rest) != tail {
				t.Errorf("Read(%v, and %d bytes) = %v %d bytes %v", g.b, len(tail), v, len(rest), e)
			}
		}
	}
}

// P6.1: each beginning of a version's bytes ends too soon.
func TestReadOfBeginnings(t *testing.T) {
	for _, g := range golden() {
		for i := range g.b {
			if v, rest, e := row.Read(g.b[:i]); e != api.ErrShort || v != (api.Version{}) || len(rest) != 0 {
				t.Errorf("Read(%v) = %v %v %v", g.b[:i], v, rest, e)
			}
		}
	}
	if v, rest, e := row.Read(nil); e != api.ErrShort || v != (api.Version{}) || len(rest) != 0 {
		t.Errorf("Read(nil) = %v %v %v", v, rest, e)
	}
}

// refused is bytes that begin with no version's, and the error.
type refused struct {
	b    []byte
	want api.Errno
}

// badNumbers is bytes that are no number's, and the error.
func badNumbers() []refused {
	return []refused{
		{[]byte("\x80\x00"), api.ErrBytes},
		{[]byte("\x81\x80\x00"), api.ErrBytes},
		{bytes.Repeat([]byte{128}, 9), api.ErrBytes},
		{bytes.Repeat([]byte{255}, 9), api.ErrBytes},
		{append(bytes.Repeat([]byte{128}, 8), 64), api.ErrBytes},
		{append(bytes.Repeat([]byte{255}, 8), 127), api.ErrBytes},
	}
}

// P6.1: a bad number in each of the places, whatever is wrong behind it.
func TestReadOfBadNumbers(t *testing.T) {
	fine := []string{"\x03", "\x28", "\x05", "\x05", "\x02", "\x00", "\x0e" + key(1, "ab"), "\x01x"}
	for place := range fine {
		for _, c := range badNumbers() {
			for _, tail := range []string{"", "\x03", strings.Join(fine[place+1:], ""), "\xc9\x01", strings.Repeat("\x65", 300)} {
				b := join(strings.Join(fine[:place], ""), string(c.b), tail)
				if v, rest, e := row.Read(b); e != c.want || v != (api.Version{}) || len(rest) != 0 {
					t.Errorf("Read(%v) = %v %v %v", b, v, rest, e)
				}
			}
		}
	}
}

// tooLong is bytes with texts of lengths around the most, all of them there or cut.
func tooLong() []refused {
	k := key(1, "ab")
	head := "\x03\x28\x05\x05\x02\x00"
	return []refused{
		{put(3, 40, 5, 5, 2, 0, strings.Repeat("k", 100), "x"), api.ErrBytes},
		{put(3, 40, 5, 5, 2, 0, strings.Repeat("k", 101), "x"), api.ErrLong},
		{put(3, 40, 5, 5, 2, 0, strings.Repeat("k", 5000), "x"), api.ErrLong},
		{put(3, 40, 5, 5, 2, 0, tuple(number(1), text(strings.Repeat("k", 41))), "x"), api.ErrBytes},
		{put(3, 40, 5, 5, 2, 0, tuple(number(1), text(strings.Repeat("\x00", 44))), "x"), api.ErrBytes},
		{put(3, 40, 5, 5, 2, 0, tuple(number(1), text(strings.Repeat("\x00", 45))), "x"), api.ErrLong},
		{join(head, "\x64"), api.ErrShort},
		{join(head, "\x64", strings.Repeat("k", 99)), api.ErrShort},
		{join(head, "\x65"), api.ErrLong},
		{join(head, "\x65", strings.Repeat("k", 99)), api.ErrLong},
		{join(head, "\xff\xff\xff\xff\xff\xff\xff\xff\x3f"), api.ErrLong},
		{put(3, 40, 5, 5, 2, 0, k, strings.Repeat("v", 201)), api.ErrLong},
		{put(3, 40, 5, 5, 2, 0, k, strings.Repeat("v", 5000)), api.ErrLong},
		{put(3, 40, 5, 5, 2, 1, k, strings.Repeat("v", 201)), api.ErrLong},
		{join(head, "\x0e", k, "\xc8\x01"), api.ErrShort},
		{join(head, "\x0e", k, "\xc8\x01", strings.Repeat("v", 199)), api.ErrShort},
		{join(head, "\x0e", k, "\xc9\x01"), api.ErrLong},
		{join(head, "\x0e", k, "\xff\xff\xff\xff\xff\xff\xff\xff\x3f"), api.ErrLong},
		{join(head, "\x65", strings.Repeat("k", 101), "\xc9\x01"), api.ErrLong},
		{join(head, "\x65", strings.Repeat("k", 101), "\x80\x00"), api.ErrLong},
		{join(head, "\x65", "\x80\x00"), api.ErrLong},
	}
}

// mayNot is bytes, all of them there, of what may not be.
func mayNot() []refused {
	k := key(1, "ab")
	l := []refused{}
	for _, b := range [][]byte{
		put(16, 40, 5, 5, 2, 0, k, "x"),
		put(1<<62-1, 40, 5, 5, 2, 0, k, "x"),
		put(3, 0, 5, 5, 2, 0, k, "x"),
		put(3, 10001, 5, 5, 2, 0, k, "x"),
		put(3, 40, 0, 5, 2, 0, k, "x"),
		put(3, 40, 100001, 5, 2, 0, k, "x"),
		put(3, 40, 5, 5, 0, 0, k, "x"),
		put(3, 40, 5, most, 0, 0, k, "x"),
		put(3, 40, 5, most, 1, 0, k, "x"),
		put(3, 40, 5, 0, most+1, 0, k, "x"),
		put(3, 40, 5, 5, most-4, 0, k, "x"),
		put(3, 40, 5, 1<<62-1, 1<<62-1, 0, k, "x"),
		put(3, 40, 5, 1, 1<<62-1, 0, k, "x"),
		put(3, 40, 5, 1<<62-1, 1, 0, k, "x"),
		put(3, 40, 5, 5, 2, 2, k, "x"),
		put(3, 40, 5, 5, 2, 2, k, ""),
		put(3, 40, 5, 5, 2, 256, k, ""),
		put(3, 40, 5, 5, 2, 257, k, ""),
		put(3, 40, 5, 5, 2, 1<<62-1, k, ""),
		put(3, 40, 5, 5, 2, 1, k, "x"),
		put(3, 40, 5, 5, 2, 1, k, "\x00"),
		put(3, 40, 5, 5, 2, 0, "", "x"),
		put(3, 40, 5, 5, 2, 0, "ab", "x"),
		put(3, 40, 5, 5, 2, 0, k[:13], "x"),
		put(3, 40, 5, 5, 2, 0, k+"\x00", "x"),
		put(3, 40, 5, 5, 2, 0, tuple(number(4), text("ab")), "x"),
		put(3, 40, 5, 5, 2, 0, tuple(number(-1), text("ab")), "x"),
		put(3, 40, 5, 5, 2, 0, tuple(text("ab"), number(1)), "x"),
		put(3, 40, 5, 5, 2, 0, tuple(number(1), text("a"), text("b")), "x"),
	} {
		l = append(l, refused{b, api.ErrBytes})
	}
	return l
}

// P6.1: what is too long, and what may not be; chapter 2's errors are ahead of ErrBytes, wherever they stand.
func TestReadErrors(t *testing.T) {
	l := append(tooLong(), mayNot()...)
	for _, c := range mayNot() {
		for i := range c.b {
			l = append(l, refused{c.b[:i], api.ErrShort})
		}
	}
	l = append(l,
		refused{put(16, 0, 0, most, 0, 2, strings.Repeat("k", 101), "x"), api.ErrLong},
		refused{put(16, 0, 0, most, 0, 2, "ab", strings.Repeat("v", 201)), api.ErrLong},
		refused{put(3, 40, 5, 5, 2, 2, key(1, "ab"), strings.Repeat("v", 201)), api.ErrLong},
	)
	for _, c := range l {
		if v, rest, e := row.Read(c.b); e != c.want || v != (api.Version{}) || len(rest) != 0 {
			t.Errorf("Read(%v) = %v %v %v, not %v", c.b, v, rest, e, c.want)
		}
	}
	for _, c := range append(tooLong(), mayNot()...) {
		if c.want == api.ErrShort {
			continue
		}
		b := append(c.b, write(t, plain())...)
		if v, rest, e := row.Read(b); e != c.want || v != (api.Version{}) || len(rest) != 0 {
			t.Errorf("Read(%v) = %v %v %v, not %v", b, v, rest, e, c.want)
		}
	}
}

// take is the number that b begins with, said another way than package vary says it: all bytes up to the last one are gathered, then weighed.
func take(b []byte) (int, []byte, api.Errno) {
	i := slices.IndexFunc(b[:min(9, len(b))], func(c byte) bool { return c < 128 })
	if i < 0 && len(b) >= 9 {
		return 0, nil, api.ErrBytes
	}
	if i < 0 {
		return 0, nil, api.ErrShort
	}
	n := new(big.Int)
	for k := i; k >= 0; k-- {
		n.Add(n.Lsh(n, 7), big.NewInt(int64(b[k]&127)))
	}
	if n.BitLen() > 62 || i > 0 && b[i] == 0 {
		return 0, nil, api.ErrBytes
	}
	return int(n.Int64()), b[i+1:], api.OK
}

// readSlowly is Read, said another way.
func readSlowly(b []byte) (api.Version, []byte, api.Errno) {
	var numbers [6]int
	var texts [2]string
	var e api.Errno
	for i := range numbers {
		if numbers[i], b, e = take(b); e != api.OK {
			return api.Version{}, nil, e
		}
	}
	for i, longest := range [2]int{100, 200} {
		size, rest, e := take(b)
		if e == api.OK && size > longest {
			e = api.ErrLong
		}
		if e == api.OK && size > len(rest) {
			e = api.ErrShort
		}
		if e != api.OK {
			return api.Version{}, nil, e
		}
		texts[i], b = string(rest[:size]), rest[size:]
	}
	if !mayBe(numbers, texts) {
		return api.Version{}, nil, api.ErrBytes
	}
	return api.Version{Key: texts[0], At: at(numbers[0], numbers[1], numbers[2]), Span: sp(numbers[3], numbers[3]+numbers[4]), Value: texts[1], Gone: numbers[5] == 1}, b, api.OK
}

// mayBe is May, said another way, of what was read.
func mayBe(n [6]int, s [2]string) bool {
	if n[0] > 15 || n[1] == 0 || n[1] > 10000 || n[2] == 0 || n[2] > 100000 {
		return false
	}
	if n[3] >= most || n[4] == 0 || n[4] > most-n[3] || n[5] > 1 || n[5] == 1 && s[1] != "" || len(s[1]) > 200 {
		return false
	}
	table, text, e := order.Split(s[0])
	if e != api.OK {
		return false
	}
	again, e := order.Key(table, text)
	return e == api.OK && again == s[0]
}

func checkRead(t *testing.T, b []byte) {
	t.Helper()
	v, rest, e := row.Read(b)
	want, wantRest, wantE := readSlowly(b)
	if e != wantE || v != want || !bytes.Equal(rest, wantRest) {
		t.Fatalf("Read(%v) = %v %v %v, not %v %v %v", b, v, rest, e, want, wantRest, wantE)
	}
	if e == api.OK && !bytes.Equal(append(write(t, v), rest...), b) {
		t.Fatalf("%v is read, but %v is not written so", b, v)
	}
}

// anyNumber is a number from least to most, often one of the two.
func anyNumber(r *rand.Rand, least, most int) int {
	switch r.Intn(4) {
	case 0:
		return least
	case 1:
		return most
	case 2:
		return min(most, least+r.Intn(3))
	}
	return least + r.Intn(most-least+1)
}

func anyText(r *rand.Rand, n int) string {
	b := make([]byte, n)
	for i := range b {
		b[i] = "\x00\x01\x02ab\x7f\x80\xff"[r.Intn(8)]
	}
	return string(b)
}

// anyVersion is a version that may be.
func anyVersion(r *rand.Rand) api.Version {
	from := anyNumber(r, 0, most-1)
	v := api.Version{
		Key:  key(r.Intn(4), anyText(r, anyNumber(r, 0, 40))),
		At:   at(r.Intn(16), anyNumber(r, 1, 10000), anyNumber(r, 1, 100000)),
		Span: sp(from, anyNumber(r, from+1, most)),
		Gone: r.Intn(4) == 0,
	}
	if !v.Gone {
		v.Value = anyText(r, anyNumber(r, 0, 200))
	}
	return v
}

// P6.4: what is written is read as the same.
func TestWrittenIsRead(t *testing.T) {
	r := rand.New(rand.NewSource(1))
	l := edges()
	for range 5000 {
		l = append(l, anyVersion(r))
	}
	for _, v := range l {
		tail := anyText(r, r.Intn(4))
		got, rest, e := row.Read(append(write(t, v), tail...))
		if e != api.OK || got != v || string(rest) != tail {
			t.Fatalf("%v is read as %v, and %q: %v", v, got, rest, e)
		}
	}
	b, e := row.List(l)
	if e != api.OK {
		t.Fatal(e)
	}
	if got, e := row.All(b); e != api.OK || !slices.Equal(got, l) {
		t.Fatalf("a list is read as %d versions: %v", len(got), e)
	}
}

// P6.1: each byte of a version's, spoilt in all ways, is told as it is.
func TestReadOfEachByteSpoilt(t *testing.T) {
	for _, g := range golden() {
		for i := range g.b {
			for c := range 256 {
				b := slices.Clone(g.b)
				b[i] = byte(c)
				checkRead(t, b)
			}
		}
	}
}

// P6.1: spoilt, cut and inserted bytes are told as they are.
func TestReadOfSpoiltBytes(t *testing.T) {
	r := rand.New(rand.NewSource(2))
	for range 20000 {
		b := append(write(t, anyVersion(r)), anyText(r, r.Intn(20))...)
		for range 1 + r.Intn(3) {
			i := r.Intn(min(len(b), 30))
			switch r.Intn(3) {
			case 0:
				b[i] = byte(r.Intn(256))
			case 1:
				b = slices.Insert(b, i, []byte(anyText(r, 1+r.Intn(9)))...)
			case 2:
				b = slices.Delete(b, i, i+1)
			}
		}
		checkRead(t, b)
		checkRead(t, b[:r.Intn(len(b)+1)])
	}
}

// P6.2: List, byte by byte.
func TestList(t *testing.T) {
	l, want := []api.Version{}, []byte{6}
	for _, g := range golden() {
		l = append(l, g.v)
		want = append(want, g.b...)
	}
	if b, e := row.List(l); e != api.OK || !bytes.Equal(b, want) {
		t.Errorf("List = %v %v, not %v", b, e, want)
	}
	for _, l := range [][]api.Version{nil, {}} {
		if b, e := row.List(l); e != api.OK || !bytes.Equal(b, []byte{0}) {
			t.Errorf("List of nothing = %v %v", b, e)
		}
	}
	same := slices.Repeat([]api.Version{golden()[0].v}, 300)
	if b, e := row.List(same); e != api.OK || !bytes.Equal(b, append([]byte{172, 2}, bytes.Repeat(golden()[0].b, 300)...)) {
		t.Errorf("List of 300 = %v %v", b, e)
	}
}

// P6.2: List of what may not be, in any place.
func TestListRefuses(t *testing.T) {
	for _, v := range wrong() {
		for i := range 3 {
			l := []api.Version{plain(), plain(), plain()}
			l[i] = v
			if b, e := row.List(l); e != api.ErrArg || len(b) != 0 {
				t.Errorf("List of %v = %v %v", l, b, e)
			}
		}
		if b, e := row.List([]api.Version{v}); e != api.ErrArg || len(b) != 0 {
			t.Errorf("List of %v = %v %v", v, b, e)
		}
	}
}

// P6.2: All of a list's bytes, in no order, and of the same ones.
func TestAll(t *testing.T) {
	l := append(edges(), edges()[:3]...)
	for _, g := range golden() {
		l = append(l, g.v)
	}
	for n := range len(l) + 1 {
		b, e := row.List(l[:n])
		if e != api.OK {
			t.Fatal(e)
		}
		if got, e := row.All(b); e != api.OK || !slices.Equal(got, l[:n]) {
			t.Fatalf("All of %d versions = %v %v", n, got, e)
		}
		for i := range b {
			if got, e := row.All(b[:i]); e != api.ErrShort || len(got) != 0 {
				t.Fatalf("All of %d of %d bytes = %v %v", i, len(b), got, e)
			}
		}
		for _, tail := range []string{"\x00", "\x80", "ab", string(golden()[0].b)} {
			if got, e := row.All(append(slices.Clip(b), tail...)); e != api.ErrBytes || len(got) != 0 {
				t.Fatalf("All with %q behind = %v %v", tail, got, e)
			}
		}
	}
}

// P6.2: All's errors: that of how many there are, Read's of each, ErrBytes of more behind.
func TestAllErrors(t *testing.T) {
	one := string(write(t, plain()))
	l := []refused{
		{nil, api.ErrShort},
		{[]byte{}, api.ErrShort},
		{[]byte("\x80"), api.ErrShort},
		{bytes.Repeat([]byte{128}, 8), api.ErrShort},
		{join("\x01"), api.ErrShort},
		{join("\x02", one), api.ErrShort},
		{join("\x80\x01", one, one), api.ErrShort},
		{join("\xff\xff\xff\xff\xff\xff\xff\xff\x3f"), api.ErrShort},
		{join("\xff\xff\xff\xff\xff\xff\xff\xff\x3f", one, one), api.ErrShort},
		{join("\x01", one, one), api.ErrBytes},
		{join("\x00", one), api.ErrBytes},
		{join("\x00\x00"), api.ErrBytes},
		{join("\x00\x80"), api.ErrBytes},
		{join("\x01", one, "\x80"), api.ErrBytes},
	}
	for _, c := range badNumbers() {
		l = append(l, c, refused{join(string(c.b), one), c.want}, refused{join("\x02", one, string(c.b)), c.want})
	}
	for _, c := range append(tooLong(), mayNot()...) {
		l = append(l, refused{join("\x01", string(c.b)), c.want}, refused{join("\x02", one, string(c.b)), c.want})
		if c.want != api.ErrShort {
			l = append(l, refused{join("\x02", string(c.b)), c.want}, refused{join("\x03", one, string(c.b), one), c.want}, refused{join("\x01", string(c.b), one), c.want})
		}
	}
	for _, c := range mayNot() {
		l = append(l, refused{join("\x02", string(c.b), string(tooLong()[1].b)), api.ErrBytes})
		l = append(l, refused{join("\x02", string(tooLong()[1].b), string(c.b)), api.ErrLong})
	}
	for _, c := range l {
		if got, e := row.All(c.b); e != c.want || len(got) != 0 {
			t.Errorf("All(%v) = %v %v, not %v", c.b, got, e, c.want)
		}
	}
}

// allSlowly is All, said another way: one Read behind the other.
func allSlowly(b []byte) ([]api.Version, api.Errno) {
	n, b, e := take(b)
	if e != api.OK {
		return nil, e
	}
	var l []api.Version
	for range n {
		var v api.Version
		if v, b, e = readSlowly(b); e != api.OK {
			return nil, e
		}
		l = append(l, v)
	}
	if len(b) > 0 {
		return nil, api.ErrBytes
	}
	return l, api.OK
}

// P6.2: All of spoilt bytes.
func TestAllOfSpoiltBytes(t *testing.T) {
	r := rand.New(rand.NewSource(3))
	for range 10000 {
		var l []api.Version
		for range r.Intn(4) {
			l = append(l, anyVersion(r))
		}
		b, e := row.List(l)
		if e != api.OK {
			t.Fatal(e)
		}
		for range r.Intn(3) {
			b[r.Intn(len(b))] = byte(r.Intn(256))
		}
		if r.Intn(4) == 0 {
			b = b[:r.Intn(len(b)+1)]
		}
		want, wantE := allSlowly(b)
		if got, e := row.All(b); e != wantE || !slices.Equal(got, want) {
			t.Fatalf("All(%v) = %v %v, not %v %v", b, got, e, want, wantE)
		}
	}
}

// P6.2: many versions: all of a list's are gone through once.
func TestManyVersions(t *testing.T) {
	l := slices.Repeat([]api.Version{plain(), with(func(v *api.Version) { v.Value = strings.Repeat("v", 200) })}, api.MaxRows/2)
	b, e := row.List(l)
	if e != api.OK {
		t.Fatal(e)
	}
	if got, e := row.All(b); e != api.OK || !slices.Equal(got, l) {
		t.Errorf("All of many = %d versions, %v", len(got), e)
	}
}

// rising is versions in their order, unlike one another; most of them may not be.
func rising() []api.Version {
	numbers := []int{math.MinInt, -1, 0, 1, 2, math.MaxInt}
	var l []api.Version
	for _, k := range []string{"", "\x00", "\x00\xff", "a", "a\x00", "ab", "b", "\x7f", "\x80", "\xff"} {
		for _, n := range numbers {
			l = append(l, api.Version{Key: k, At: at(n, 0, 0)})
		}
	}
	for _, n := range numbers {
		l = append(l, api.Version{Key: "\xff\xff", At: at(1, n, 0)})
	}
	for _, n := range numbers {
		l = append(l, api.Version{Key: "\xff\xff", At: at(2, 0, n)})
	}
	for _, n := range numbers {
		l = append(l, api.Version{Key: "\xff\xff", At: at(3, 0, 0), Span: sp(n, 0)})
	}
	// Each of the five goes on falling while the one ahead of it rises.
	return append(l,
		api.Version{Key: "\xff\xff\x00", At: at(9, 9, 9), Span: sp(9, 9)},
		api.Version{Key: "\xff\xff\x01", At: at(7, 9, 9), Span: sp(9, 9)},
		api.Version{Key: "\xff\xff\x01", At: at(8, 7, 9), Span: sp(9, 9)},
		api.Version{Key: "\xff\xff\x01", At: at(8, 8, 7), Span: sp(9, 9)},
		api.Version{Key: "\xff\xff\x01", At: at(8, 8, 8), Span: sp(7, 9)},
	)
}

// P6.3: Compare, of any two.
func TestCompare(t *testing.T) {
	l := rising()
	for i, a := range l {
		for k, b := range l {
			want := 0
			if i < k {
				want = -1
			} else if i > k {
				want = 1
			}
			if got := row.Compare(a, b); got != want {
				t.Errorf("Compare(%v, %v) = %d, not %d", a, b, got, want)
			}
		}
	}
}

// P6.3: To, Value and Gone are nothing to the order.
func TestCompareOfTheSame(t *testing.T) {
	for _, v := range edges() {
		for _, w := range []api.Version{
			{Key: v.Key, At: v.At, Span: sp(v.Span.From, math.MaxInt), Value: v.Value, Gone: v.Gone},
			{Key: v.Key, At: v.At, Span: sp(v.Span.From, math.MinInt), Value: v.Value, Gone: v.Gone},
			{Key: v.Key, At: v.At, Span: v.Span, Value: v.Value + "z", Gone: v.Gone},
			{Key: v.Key, At: v.At, Span: v.Span, Value: "", Gone: v.Gone},
			{Key: v.Key, At: v.At, Span: v.Span, Value: v.Value, Gone: !v.Gone},
		} {
			if row.Compare(v, w) != 0 || row.Compare(w, v) != 0 {
				t.Errorf("%v and %v are not the same to the order", v, w)
			}
		}
	}
}

// P6.3: keys are in the order of their tables and texts.
func TestCompareOfKeys(t *testing.T) {
	keys := []string{key(0, "a"), key(0, "b"), key(1, ""), key(1, "\x00"), key(1, "a"), key(1, "a\x00"), key(1, "aa"), key(1, "b"), key(3, "")}
	for i := range keys[1:] {
		a := with(func(v *api.Version) { v.Key, v.At = keys[i], at(15, 9, 9) })
		b := with(func(v *api.Version) { v.Key, v.At = keys[i+1], at(0, 1, 1) })
		if row.Compare(a, b) != -1 || row.Compare(b, a) != 1 {
			t.Errorf("%q is not ahead of %q", keys[i], keys[i+1])
		}
	}
}

// R4: neither what is handed in nor its spare room is changed.
func TestNothingIsChanged(t *testing.T) {
	one := write(t, plain())
	for _, head := range [][]byte{one, append([]byte{1}, one...)} {
		room := append(slices.Clone(head), "and spare room behind it"...)
		kept := slices.Clone(room)
		row.Read(room[:len(head)])
		row.Read(room)
		row.All(room[:len(head)])
		row.All(room)
		if !bytes.Equal(room, kept) {
			t.Errorf("%v was changed to %v", kept, room)
		}
	}
	l := []api.Version{plain(), golden()[0].v, {}, golden()[1].v}
	kept := slices.Clone(l)
	row.List(l[:2])
	row.List(l)
	if !slices.Equal(l, kept) {
		t.Errorf("%v was changed to %v", kept, l)
	}
}

// R4: what stands behind is new memory, in both ways.
func TestRestIsNewMemory(t *testing.T) {
	one := write(t, plain())
	for _, tail := range []string{"", "and more"} {
		room := append(slices.Clone(one), tail+"spare"...)
		b := room[:len(one)+len(tail)]
		kept := slices.Clone(room)
		_, rest, _ := row.Read(b)
		for i := range rest[:cap(rest)] {
			rest[:cap(rest)][i] = '?'
		}
		if !bytes.Equal(room, kept) {
			t.Errorf("the rest shares memory with what was handed in: %q", room)
		}
		v, rest, _ := row.Read(b)
		clear(room)
		if v != plain() || string(rest) != tail {
			t.Errorf("%v and %q hang on what was handed in", v, rest)
		}
	}
}

// R4: what is answered is new at each call.
func TestAnswersAreNewMemory(t *testing.T) {
	l := []api.Version{plain(), golden()[0].v}
	b, _ := row.List(l)
	kept := slices.Clone(b)
	for _, f := range []func() []byte{
		func() []byte { b, _ := row.List(l); return b },
		func() []byte { b, _ := row.List(nil); return b },
		func() []byte { b, _ := row.Write(plain()); return b },
	} {
		one, two := f(), f()
		want := slices.Clone(two)
		clear(one[:cap(one)])
		if !bytes.Equal(two, want) || !bytes.Equal(f(), want) {
			t.Errorf("two answers share memory: %v, not %v", two, want)
		}
	}
	one, _ := row.All(b)
	two, _ := row.All(b)
	clear(one[:cap(one)])
	clear(b)
	if !slices.Equal(two, l) {
		t.Errorf("All = %v, behind a change of what was handed in", two)
	}
	if again, _ := row.All(kept); !slices.Equal(again, l) {
		t.Errorf("All = %v, behind a change of an answer", again)
	}
}
