package run_test

import (
	"bytes"
	"encoding/binary"
	"hash/crc32"
	"math"
	"math/rand"
	"slices"
	"strings"
	"testing"

	"duramen/api"
	"duramen/block"
	"duramen/order"
	"duramen/row"
	"duramen/run"
)

// most is the end of time.
const most = 1 << 40

// key is the key of a table and a text, which may be one.
func key(table int, text string) string {
	k, e := order.Key(table, text)
	if e != api.OK {
		panic(e)
	}
	return k
}

// tuple is the bytes of a tuple, as a text.
func tuple(l ...api.Part) string { return string(order.Write(l)) }

func number(n int) api.Part { return api.Part{Number: n} }

func text(s string) api.Part { return api.Part{IsText: true, Text: s} }

func sp(from, to int) api.Span { return api.Span{From: from, To: to} }

func at(branch, epoch, seq int) api.Stamp {
	return api.Stamp{Branch: branch, Epoch: epoch, Seq: seq}
}

// plain is a version in no way at an edge.
func plain() api.Version {
	return api.Version{Key: key(1, "ab"), At: at(3, 40, 500), Span: sp(5, 7), Value: "xyz"}
}

// with is the plain version, changed.
func with(change func(v *api.Version)) api.Version {
	v := plain()
	change(&v)
	return v
}

// keyed is the plain version of another key.
func keyed(k string) api.Version { return with(func(v *api.Version) { v.Key = k }) }

// numbered is n versions of a key, in their order.
func numbered(k string, n int) []api.Version {
	var l []api.Version
	for i := range n {
		l = append(l, api.Version{Key: k, At: at(0, 1+i/3, 1+i%3), Span: sp(i, i+2), Value: "v"})
	}
	return l
}

// spread is n versions of keys unlike one another, in their order.
func spread(n int) []api.Version {
	var l []api.Version
	for i := range n {
		l = append(l, keyed(key(i/3000, string([]byte{byte(i / 50 % 60), byte(i % 50)}))))
	}
	return l
}

// frame is the frame of s.
func frame(s string) string {
	b := binary.LittleEndian.AppendUint32(nil, uint32(len(s)))
	b = binary.LittleEndian.AppendUint32(b, crc32.ChecksumIEEE([]byte(s)))
	return string(b) + s
}

// numbers is the bytes of each of l.
func numbers(l ...int) string {
	var b []byte
	for _, n := range l {
		b = binary.AppendUvarint(b, uint64(n))
	}
	return string(b)
}

// lengthy is s behind its length.
func lengthy(s string) string { return numbers(len(s)) + s }

// cut is the blocks of l, of size versions each, as bytes; a block that may not be has none.
func cut(l []api.Version, size int) []string {
	var out []string
	for piece := range slices.Chunk(l, size) {
		b, _ := block.Write(piece)
		out = append(out, string(b))
	}
	return out
}

// join is the frames of blocks.
func join(blocks []string) string {
	s := ""
	for _, b := range blocks {
		s += frame(b)
	}
	return s
}

// keys is the keys of the versions that blocks of eight begin with.
func keys(l []api.Version) []string {
	var out []string
	for piece := range slices.Chunk(l, 8) {
		out = append(out, piece[0].Key)
	}
	return out
}

// fences is the bytes of keys.
func fences(l ...string) string {
	s := numbers(len(l))
	for _, k := range l {
		s += lengthy(k)
	}
	return s
}

// whole is the bytes of a run's parts.
func whole(blocks []string, fences, foot string) string {
	return join(blocks) + frame(fences) + frame(foot)
}

// buildSlowly is the bytes of the run l by the document's words, said another way.
func buildSlowly(l []api.Version) string {
	blocks := cut(l, 8)
	return whole(blocks, fences(keys(l)...), numbers(len(l), len(blocks), len(join(blocks))))
}

// build is a run's bytes.
func build(t *testing.T, l []api.Version) []byte {
	t.Helper()
	b, e := run.Build(l)
	if e != api.OK {
		t.Fatalf("Build of %d: %v", len(l), e)
	}
	return b
}

// open is a run's bytes, opened.
func open(t *testing.T, b []byte) *run.Run {
	t.Helper()
	r, e := run.Open(b)
	if e != api.OK || r == nil {
		t.Fatalf("Open of %d bytes: %v", len(b), e)
	}
	return r
}

// opened is the run of l.
func opened(t *testing.T, l []api.Version) *run.Run {
	t.Helper()
	return open(t, build(t, l))
}

// refuses holds that b are no run's bytes.
func refuses(t *testing.T, why, b string) {
	t.Helper()
	if r, e := run.Open([]byte(b)); r != nil || e != api.ErrTorn {
		t.Errorf("%s: Open(%v) = %v %v", why, []byte(b), r, e)
	}
}

type goldenRun struct {
	name string
	l    []api.Version
	b    string
}

// head is the bytes of a key up to its text.
const head = "\x01\x80\x00\x00\x00\x00\x00\x00\x01\x02"

// nine is nine versions of two keys; those of the second one go on from the first block to the second one.
func nine() []api.Version {
	l := []api.Version{{Key: key(1, "a"), At: at(0, 1, 1), Span: sp(0, 9), Value: "x"}}
	for i := range 8 {
		l = append(l, api.Version{Key: key(1, "b"), At: at(2, 5, 7), Span: sp(i, 9), Gone: true})
	}
	return l
}

// golden is runs and their bytes, written out by hand from the document's words, but for the sums.
func golden() []goldenRun {
	a, b := head+"a\x00\x01", head+"b\x00\x01"
	first := "\x08" + "\x00\x0d" + a + "\x00\x01\x01\x00\x09\x00\x01x" +
		"\x0a\x03b\x00\x01\x02\x05\x07\x00\x09\x01\x00" +
		"\x0d\x00\x02\x05\x07\x01\x08\x01\x00" +
		"\x0d\x00\x02\x05\x07\x02\x07\x01\x00" +
		"\x0d\x00\x02\x05\x07\x03\x06\x01\x00" +
		"\x0d\x00\x02\x05\x07\x04\x05\x01\x00" +
		"\x0d\x00\x02\x05\x07\x05\x04\x01\x00" +
		"\x0d\x00\x02\x05\x07\x06\x03\x01\x00"
	second := "\x01" + "\x00\x0d" + b + "\x02\x05\x07\x07\x02\x01\x00"
	one := "\x01" + "\x00\x0d" + a + "\x00\x01\x01\x00\x09\x00\x01x"
	return []goldenRun{
		{"none", nil, frame("\x00") + frame("\x00\x00\x00")},
		{"one", nine()[:1], frame(one) + frame("\x01\x0d"+a) + frame("\x01\x01\x20")},
		{"eight", nine()[:8], frame(first) + frame("\x01\x0d"+a) + frame("\x08\x01\x62")},
		{"nine", nine(), frame(first) + frame(second) + frame("\x02\x0d"+a+"\x0d"+b) + frame("\x09\x02\x81\x01")},
	}
}

// lists is versions that are runs.
func lists() [][]api.Version {
	var l [][]api.Version
	for _, g := range golden() {
		l = append(l, g.l)
	}
	for n := range 34 {
		l = append(l, numbered(key(2, "k"), n), spread(n))
	}
	for _, v := range edges() {
		l = append(l, []api.Version{v})
	}
	return append(l, spread(1000), numbered(key(0, strings.Repeat("\x00", 40)), 1030), mixed(3, 11, 2), mixed(8, 16, 8), mixed(0, 9, 40))
}

// mixed is versions of three keys, so many of each.
func mixed(a, b, c int) []api.Version {
	return slices.Concat(numbered(key(1, "a"), a), numbered(key(1, "ab"), b), numbered(key(1, "b"), c))
}

// edges is versions that may be, each at an edge.
func edges() []api.Version {
	l := []api.Version{plain()}
	for _, k := range []string{key(0, "a"), key(3, "a"), key(0, ""), key(3, strings.Repeat("k", 40)), key(3, strings.Repeat("\x00", 40)), key(1, "\xff\xfe")} {
		l = append(l, keyed(k))
	}
	for _, a := range []api.Stamp{at(0, 40, 500), at(15, 40, 500), at(3, 1, 500), at(3, 10000, 500), at(3, 40, 1), at(3, 40, 100000)} {
		l = append(l, with(func(v *api.Version) { v.At = a }))
	}
	for _, s := range []api.Span{sp(0, 1), sp(0, most), sp(most-1, most)} {
		l = append(l, with(func(v *api.Version) { v.Span = s }))
	}
	for _, n := range []int{0, 1, 200} {
		l = append(l, with(func(v *api.Version) { v.Value = strings.Repeat("\x80", n) }))
	}
	return append(l, with(func(v *api.Version) { v.Value, v.Gone = "", true }))
}

// wrong is versions that may not be, each in one way alone.
func wrong() []api.Version {
	l := []api.Version{{}}
	for _, k := range []string{
		"", "ab", "\x01", key(1, "ab") + "\x00", key(1, "ab") + tuple(number(1)), key(1, "ab")[:13],
		tuple(number(1)), tuple(text("ab")), tuple(number(4), text("ab")), tuple(number(-1), text("ab")), tuple(number(1), text(strings.Repeat("k", 41))),
	} {
		l = append(l, keyed(k))
	}
	for _, a := range []api.Stamp{
		at(-1, 40, 500), at(16, 40, 500), at(math.MinInt, 40, 500), at(3, 0, 500), at(3, -1, 500), at(3, 10001, 500), at(3, math.MaxInt, 500), at(3, 40, 0), at(3, 40, 100001),
	} {
		l = append(l, with(func(v *api.Version) { v.At = a }))
	}
	for _, s := range []api.Span{sp(-1, 7), sp(5, 5), sp(7, 5), sp(5, most+1), sp(0, 0), sp(math.MinInt, math.MaxInt), sp(math.MaxInt, math.MinInt)} {
		l = append(l, with(func(v *api.Version) { v.Span = s }))
	}
	return append(l,
		with(func(v *api.Version) { v.Value = strings.Repeat("v", 201) }),
		with(func(v *api.Version) { v.Gone = true }),
	)
}

// P9.1: Build, byte by byte.
func TestBuild(t *testing.T) {
	for _, g := range golden() {
		if b, e := run.Build(g.l); e != api.OK || string(b) != g.b {
			t.Errorf("%s: Build = %v %v, not %v", g.name, b, e, []byte(g.b))
		}
	}
	for _, l := range lists() {
		if b, e := run.Build(l); e != api.OK || string(b) != buildSlowly(l) {
			t.Errorf("Build of %d = %v %v, not %v", len(l), b, e, []byte(buildSlowly(l)))
		}
	}
}

// P9.1: Open of a run's bytes.
func TestOpen(t *testing.T) {
	for _, g := range golden() {
		r, e := run.Open([]byte(g.b))
		if e != api.OK || r == nil {
			t.Fatalf("%s: Open: %v", g.name, e)
		}
		if got := r.All(); !slices.Equal(got, g.l) || r.Len() != len(g.l) {
			t.Errorf("%s: opened, it has %d: %v", g.name, r.Len(), got)
		}
	}
}

// noRun holds that l is no run, and no run's bytes are those that l's would be.
func noRun(t *testing.T, why string, l []api.Version) {
	t.Helper()
	if b, e := run.Build(l); e != api.ErrArg || len(b) != 0 {
		t.Errorf("%s: Build of %d = %v %v", why, len(l), b, e)
	}
	refuses(t, why, buildSlowly(l))
}

// P9.1: versions that may not be, in each place of lists that would be runs.
func TestWrongVersions(t *testing.T) {
	for _, v := range wrong() {
		noRun(t, "alone", []api.Version{v})
		for _, n := range []int{1, 2, 7, 8, 9, 16, 17, 25} {
			fine := make([]api.Version, n)
			for i := range fine {
				fine[i] = with(func(v *api.Version) { v.At.Seq = 400 + 10*i })
			}
			for i := range n {
				noRun(t, "among others", slices.Replace(slices.Clone(fine), i, i+1, v))
			}
			noRun(t, "behind all", append(slices.Clone(fine), v))
			noRun(t, "ahead of all", append([]api.Version{v}, fine...))
		}
	}
}

// P9.1: each version is behind the one ahead, from one block to the next, too.
func TestNoOrder(t *testing.T) {
	for _, full := range [][]api.Version{numbered(key(1, "ab"), 26), spread(26)} {
		for i := range full {
			twice := slices.Insert(slices.Clone(full), i, full[i])
			noRun(t, "one stands twice", twice)
			alike := slices.Clone(twice)
			alike[i].Span.To += 5
			noRun(t, "two are alike in the order", alike)
			alike[i].Value = "z"
			noRun(t, "two are alike in the order", alike)
			for k := range i {
				turned := slices.Clone(full)
				turned[i], turned[k] = turned[k], turned[i]
				noRun(t, "two are turned", turned)
			}
		}
	}
}

// P9.1: what makes a version one behind another one is the order of keys, branches, epochs, numbers, times.
func TestOrder(t *testing.T) {
	v := func(k string, branch, epoch, seq, from int) api.Version {
		return api.Version{Key: key(1, k), At: at(branch, epoch, seq), Span: sp(from, from+9), Value: "x"}
	}
	for i, s := range [][2]api.Version{
		{v("a", 9, 9, 9, 9), v("b", 0, 1, 1, 0)},
		{v("a", 8, 9, 9, 9), v("a", 9, 1, 1, 0)},
		{v("a", 9, 8, 9, 9), v("a", 9, 9, 1, 0)},
		{v("a", 9, 9, 8, 9), v("a", 9, 9, 9, 0)},
		{v("a", 9, 9, 9, 8), v("a", 9, 9, 9, 9)},
	} {
		for ahead := range 9 {
			fine := numbered(key(0, "a"), ahead)
			if got := opened(t, append(fine, s[0], s[1])).All(); len(got) != ahead+2 || got[ahead] != s[0] || got[ahead+1] != s[1] {
				t.Errorf("%d: %v", i, got)
			}
			noRun(t, "turned", append(fine, s[1], s[0]))
			noRun(t, "alike", append(fine, s[1], s[1]))
		}
	}
}

// P9.1: a run of MaxRows versions, and more than these.
func TestOfMany(t *testing.T) {
	l := numbered(key(2, "k"), api.MaxRows-1)
	for i := range l {
		l[i].At = at(i/10000, 1+i/5%10000, 1+i%5)
	}
	l = append(l, keyed(key(3, "")))
	r := opened(t, l)
	if r.Len() != api.MaxRows || !slices.Equal(r.All(), l) {
		t.Errorf("of MaxRows there are %d", r.Len())
	}
	if got := r.Of(key(2, "k")); !slices.Equal(got, l[:api.MaxRows-1]) {
		t.Errorf("of MaxRows less 1 of a key there are %d", len(got))
	}
	for range 9 {
		v := l[len(l)-1]
		v.At.Seq++
		l = append(l, v)
		if b, e := run.Build(l); e != api.ErrLong || len(b) != 0 {
			t.Errorf("Build of %d: %d bytes, %v", len(l), len(b), e)
		}
	}
	for _, i := range []int{0, api.MaxRows - 1, api.MaxRows, len(l) - 1} {
		no := slices.Clone(l)
		no[i].Span.To = 0
		if b, e := run.Build(no); e != api.ErrArg || len(b) != 0 {
			t.Errorf("Build of %d, the one at %d wrong: %d bytes, %v", len(l), i, len(b), e)
		}
	}
	no := append(slices.Clone(l[:api.MaxRows]), l[0])
	if b, e := run.Build(no); e != api.ErrArg || len(b) != 0 {
		t.Errorf("Build of %d, the last one ahead of its place: %d bytes, %v", len(no), len(b), e)
	}
}

// P9.1: bytes that tell more than MaxRows versions are no run's, though all else is right.
func TestOpenOfTooMany(t *testing.T) {
	var many, fence strings.Builder
	const n = api.MaxRows/8 + 1
	fence.WriteString(numbers(n))
	for i := range n {
		l := numbered(key(2, "k"), 8)
		for k := range l {
			l[k].At = at(1+i/2000, 1+i%2000, 1+k)
		}
		many.WriteString(join(cut(l, 8)))
		fence.WriteString(lengthy(l[0].Key))
	}
	refuses(t, "too many", many.String()+frame(fence.String())+frame(numbers(8*n, n, many.Len())))
}

// P9.1: each beginning of a run's bytes, and more behind or ahead of them.
func TestOpenOfMoreAndLess(t *testing.T) {
	refuses(t, "no bytes", "")
	for _, g := range golden() {
		for i := range g.b {
			refuses(t, "cut", g.b[:i])
			refuses(t, "without a beginning", g.b[i+1:])
		}
		for _, s := range []string{"\x00", "\x01", "\xff", "\x00\x00\x00", frame(""), frame("\x00"), frame("\x00\x00\x00"), g.b, g.b[:8], g.b[8:]} {
			refuses(t, "more behind", g.b+s)
			refuses(t, "more ahead", s+g.b)
		}
	}
}

// P9.1, P9.3: each byte spoilt in all ways, left out, or put twice.
func TestOpenOfEachByteSpoilt(t *testing.T) {
	for _, g := range golden() {
		for i := range g.b {
			for c := range 256 {
				b := []byte(g.b)
				if b[i] == byte(c) {
					continue
				}
				b[i] = byte(c)
				refuses(t, "spoilt", string(b))
			}
			refuses(t, "left out", g.b[:i]+g.b[i+1:])
			refuses(t, "put in", g.b[:i]+"\x00"+g.b[i:])
		}
	}
}

// P9.3: frames that stand elsewhere, or not, or twice, each with its sum.
func TestOpenOfOtherFrames(t *testing.T) {
	for _, l := range [][]api.Version{nil, numbered(key(2, "k"), 1), numbered(key(2, "k"), 8), spread(9), numbered(key(2, "k"), 17), mixed(8, 16, 8)} {
		blocks := cut(l, 8)
		n := len(blocks)
		frames := append(slices.Clone(blocks), fences(keys(l)...), numbers(len(l), n, len(join(blocks))))
		if join(frames) != string(build(t, l)) {
			t.Fatalf("Build of %d is not so", len(l))
		}
		for i, f := range frames {
			refuses(t, "left out", join(slices.Delete(slices.Clone(frames), i, i+1)))
			refuses(t, "only these", join(frames[i:i+1]))
			for k := range i {
				turned := slices.Clone(frames)
				turned[i], turned[k] = turned[k], turned[i]
				refuses(t, "turned", join(turned))
				if n > 0 {
					refuses(t, "only two", join([]string{frames[k], f}))
				}
			}
			for k := range len(frames) + 1 {
				refuses(t, "twice", join(slices.Insert(slices.Clone(frames), k, f)))
				refuses(t, "one more", join(slices.Insert(slices.Clone(frames), k, "")))
			}
			for _, s := range []string{"", "\x00", "\x01", "\x80", f[1:], f[:len(f)-1], f + "\x00", f + f, "\x00" + f} {
				if s != f {
					refuses(t, "other bytes", join(slices.Replace(slices.Clone(frames), i, i+1, s)))
				}
			}
		}
	}
}

// P9.3: versions that are a run, but in other blocks than chapter 8's Cut has, with fences and a foot that hold.
func TestOpenOfOtherBlocks(t *testing.T) {
	for _, l := range [][]api.Version{numbered(key(2, "k"), 16), spread(17), numbered(key(2, "k"), 9)} {
		for at := range len(l) + 1 {
			for _, sizes := range [][2]int{{8, 8}, {7, 8}, {8, 7}, {1, 1}, {4, 4}} {
				blocks := append(cut(l[:at], sizes[0]), cut(l[at:], sizes[1])...)
				fence := append(keysOf(l[:at], sizes[0]), keysOf(l[at:], sizes[1])...)
				if b := whole(blocks, fences(fence...), numbers(len(l), len(blocks), len(join(blocks)))); b != buildSlowly(l) {
					refuses(t, "other blocks", b)
				}
			}
		}
	}
	for i := range 4 {
		blocks := slices.Insert(cut(spread(24), 8), i, "\x00")
		fence := slices.Insert(keys(spread(24)), i, "")
		refuses(t, "an empty block", whole(blocks, fences(fence...), numbers(24, 4, len(join(blocks)))))
	}
}

// keysOf is the keys of the versions that blocks of size begin with.
func keysOf(l []api.Version, size int) []string {
	var out []string
	for piece := range slices.Chunk(l, size) {
		out = append(out, piece[0].Key)
	}
	return out
}

// P9.3: fences and feet that do not hold, or are told by other bytes than they are.
func TestOpenOfOtherFencesAndFeet(t *testing.T) {
	for _, l := range [][]api.Version{nil, numbered(key(2, "k"), 5), spread(8), mixed(5, 9, 5), numbered(key(2, "k"), 17)} {
		blocks, fence := cut(l, 8), keys(l)
		n, size := len(blocks), len(join(blocks))
		foot := numbers(len(l), n, size)
		for _, f := range []string{
			numbers(len(l)+1, n, size), numbers(len(l), n+1, size), numbers(len(l), n, size+1), numbers(n, len(l), size+1), numbers(len(l), n), numbers(len(l), n, size, 0),
			numbers(len(l)^1, n, size), numbers(len(l), n^1, size), numbers(len(l), n, size^1), numbers(8*n+9, n, size), numbers(len(l), n, size+8), numbers(),
			numbers(len(l)) + numbers(n | 128)[:1] + "\x00" + numbers(size), string([]byte{byte(len(l)) | 128, 0}) + numbers(n, size), foot + "\x00",
		} {
			refuses(t, "another foot", whole(blocks, fences(fence...), f))
		}
		for _, f := range []string{
			fences(append(slices.Clone(fence), key(3, "z"))...), fences(append([]string{key(0, "")}, fence...)...), fences(fence...) + "\x00", numbers(n | 128)[:1] + "\x00" + fences(fence...)[1:],
			numbers(n+1) + fences(fence...)[1:], numbers(n + 1), "", fences(fence...) + lengthy(key(3, "z")),
		} {
			refuses(t, "other fences", whole(blocks, f, foot))
		}
		for i, k := range fence {
			for _, other := range []string{"", k + "\x00", k[1:], k[:len(k)-1], key(0, "zz"), l[len(l)-1].Key + "\x00", strings.Repeat("k", 200), strings.Repeat("k", 201)} {
				refuses(t, "another fence", whole(blocks, fences(slices.Replace(slices.Clone(fence), i, i+1, other)...), foot))
			}
			refuses(t, "no fence", whole(blocks, fences(slices.Delete(slices.Clone(fence), i, i+1)...), foot))
			refuses(t, "a fence not told as it is", whole(blocks, numbers(n)+strings.Replace(fences(fence...)[1:], lengthy(k), string([]byte{byte(len(k)) | 128, 0})+k, 1), foot))
		}
	}
}

// P9.3: a fence is the key of the block's first version, not of another one.
func TestOpenOfFencesWithin(t *testing.T) {
	l := spread(24)
	blocks, fence := cut(l, 8), keys(l)
	foot := numbers(24, 3, len(join(blocks)))
	for i := range fence {
		for _, v := range l {
			if v.Key != fence[i] {
				refuses(t, "another fence", whole(blocks, fences(slices.Replace(slices.Clone(fence), i, i+1, v.Key)...), foot))
			}
		}
	}
}

// R1: bytes that are of no form at all, and heads that tell more than there is.
func TestOpenOfAnyBytes(t *testing.T) {
	r := rand.New(rand.NewSource(5))
	for _, n := range []int{1, 2, 7, 8, 9, 15, 16, 17, 24, 100, 5000} {
		for _, c := range []byte{0, 1, 127, 128, 255} {
			refuses(t, "all alike", strings.Repeat(string([]byte{c}), n))
		}
		for range 50 {
			b := make([]byte, n)
			r.Read(b)
			refuses(t, "any", string(b))
		}
	}
	for _, s := range []string{numbers(1 << 61), numbers(1<<62-1, 1<<62-1), numbers(100000, 12500, 1<<40), strings.Repeat("\xff", 30)} {
		refuses(t, "great numbers", frame(s)+frame(s))
		refuses(t, "great numbers", frame(s)+frame(s)+frame(s))
		refuses(t, "great numbers", frame("\x00")+frame(s))
		refuses(t, "great numbers", frame(s)+frame("\x00\x00\x00"))
	}
}

// takeFrames is the frames that b is made of, and whether it is made of frames.
func takeFrames(b string) ([]string, bool) {
	var l []string
	for len(b) > 0 {
		if len(b) < 8 {
			return nil, false
		}
		size := int(binary.LittleEndian.Uint32([]byte(b)))
		if size > len(b)-8 || b[:8+size] != frame(b[8:8+size]) {
			return nil, false
		}
		l, b = append(l, b[8:8+size]), b[8+size:]
	}
	return l, true
}

// openSlowly is the versions of the run whose bytes b are, and whether they are one's: rule by rule.
func openSlowly(b string) ([]api.Version, bool) {
	frames, ok := takeFrames(b)
	n := len(frames) - 2
	if !ok || n < 0 {
		return nil, false
	}
	var l []api.Version
	for i, f := range frames[:n] {
		rows, e := block.Read([]byte(f))
		if e != api.OK || i < n-1 && len(rows) != 8 {
			return nil, false
		}
		l = append(l, rows...)
	}
	for i := 1; i < len(l); i++ {
		if row.Compare(l[i-1], l[i]) != -1 {
			return nil, false
		}
	}
	fine := len(l) <= 100000 && frames[n] == fences(keys(l)...) && frames[n+1] == numbers(len(l), n, len(join(frames[:n])))
	return l, fine
}

// checkOpen holds Open of any bytes against openSlowly, and tells whether they are a run's.
func checkOpen(t *testing.T, b string) bool {
	t.Helper()
	want, fine := openSlowly(b)
	r, e := run.Open([]byte(b))
	if !fine {
		if r != nil || e != api.ErrTorn {
			t.Fatalf("Open(%v) = %v %v", []byte(b), r, e)
		}
		return false
	}
	if e != api.OK || r == nil || !slices.Equal(r.All(), want) {
		t.Fatalf("Open(%v): %v", []byte(b), e)
	}
	if again, e := run.Build(want); e != api.OK || string(again) != b {
		t.Fatalf("%v is opened, but %v is built: %v", []byte(b), again, e)
	}
	return true
}

// P9.3: what is built is opened as the same; spoilt within its frames, whose sums are made right again, it is told as it is.
func TestOpenOfSpoiltRuns(t *testing.T) {
	r := rand.New(rand.NewSource(6))
	fine := 0
	for range 6000 {
		l := anyRun(r, r.Intn(30))
		b := string(build(t, l))
		if !checkOpen(t, b) || !slices.Equal(open(t, []byte(b)).All(), l) {
			t.Fatalf("%v is not opened", l)
		}
		frames, _ := takeFrames(b)
		for range 1 + r.Intn(2) {
			i := r.Intn(len(frames))
			frames[i] = spoilt(r, frames[i])
		}
		if checkOpen(t, join(frames)) {
			fine++
		}
		if s := spoilt(r, b); s != b && checkOpen(t, s) {
			t.Fatalf("%v is opened", []byte(s))
		}
	}
	if fine == 0 || fine > 3000 {
		t.Errorf("%d of 6000 spoilt ones are runs", fine)
	}
}

// spoilt is s with a byte changed, put in, or left out.
func spoilt(r *rand.Rand, s string) string {
	i := r.Intn(len(s) + 1)
	c := string([]byte{byte(r.Intn(256))})
	switch {
	case i == len(s) || r.Intn(5) == 0:
		return s[:i] + c + s[i:]
	case r.Intn(5) == 0:
		return s[:i] + s[i+1:]
	case r.Intn(2) == 0:
		return s[:i] + string([]byte{s[i] + byte(r.Intn(3)) - 1}) + s[i+1:]
	}
	return s[:i] + c + s[i+1:]
}

// anyRun is a run of n versions, or somewhat fewer, of few keys, so that they go on from block to block.
func anyRun(r *rand.Rand, n int) []api.Version {
	var l []api.Version
	texts := []string{"", "a", "a\x00", "ab", "b", "\xff"}
	for range n {
		from := r.Intn(4)
		v := api.Version{
			Key:   key(1+r.Intn(2), texts[r.Intn(1+r.Intn(len(texts)))]),
			At:    at(r.Intn(3), 1+r.Intn(5), 1+r.Intn(5)),
			Span:  sp(from, from+1+r.Intn(9)),
			Value: strings.Repeat("v", r.Intn(3)),
		}
		if r.Intn(4) == 0 {
			v.Value, v.Gone = "", true
		}
		l = append(l, v)
	}
	slices.SortFunc(l, row.Compare)
	return slices.CompactFunc(l, func(a, b api.Version) bool { return row.Compare(a, b) == 0 })
}

// P9.2: Len and All.
func TestLenAndAll(t *testing.T) {
	for _, l := range lists() {
		r := opened(t, l)
		if r.Len() != len(l) {
			t.Errorf("Len of %d = %d", len(l), r.Len())
		}
		if got := r.All(); !slices.Equal(got, l) {
			t.Errorf("All of %d = %v, not %v", len(l), got, l)
		}
	}
}

// kept is those of l of which asked tells true.
func kept(l []api.Version, asked func(v api.Version) bool) []api.Version {
	var out []api.Version
	for _, v := range l {
		if asked(v) {
			out = append(out, v)
		}
	}
	return out
}

// around is texts at, ahead of, and behind the keys of l.
func around(l []api.Version) []string {
	out := []string{"", "\x00", "\x01", "\xff", strings.Repeat("\xff", 100), "a", key(0, ""), key(3, strings.Repeat("\xff", 40)), key(1, "zz"), key(2, "")}
	ahead := ""
	for _, v := range l {
		k := v.Key
		if k != ahead {
			out = append(out, k, k+"\x00", k[:len(k)-1], k[:len(k)-1]+"\x00", k[:len(k)-1]+"\x02")
		}
		ahead = k
	}
	return out
}

// checkAsked holds what a run tells against what is kept of its versions, one by one.
func checkAsked(t *testing.T, l []api.Version) {
	t.Helper()
	r := opened(t, l)
	asked := around(l)
	for _, k := range asked {
		want := kept(l, func(v api.Version) bool { return v.Key == k })
		if got := r.Of(k); !slices.Equal(got, want) {
			t.Fatalf("of %d: Of(%q) = %v, not %v", len(l), k, got, want)
		}
		for _, to := range asked {
			want := kept(l, func(v api.Version) bool {
				return strings.Compare(v.Key, k) >= 0 && strings.Compare(v.Key, to) < 0
			})
			if got := r.Range(k, to); !slices.Equal(got, want) {
				t.Fatalf("of %d: Range(%q, %q) = %v, not %v", len(l), k, to, got, want)
			}
		}
		checkLast(t, r, l, k)
	}
	if r.Len() != len(l) || !slices.Equal(r.All(), l) {
		t.Fatalf("of %d there are %d", len(l), r.Len())
	}
}

// checkLast holds Last of a key against what is kept of l's versions.
func checkLast(t *testing.T, r *run.Run, l []api.Version, k string) {
	t.Helper()
	for _, branch := range []int{math.MinInt, -1, 0, 1, 2, 3, 15, 16, math.MaxInt} {
		for _, epoch := range []int{math.MinInt, -1, 0, 1, 2, 3, 4, 5, 6, 10000, 10001, math.MaxInt} {
			all := kept(l, func(v api.Version) bool { return v.Key == k && v.At.Branch == branch && v.At.Epoch <= epoch })
			want := api.Version{}
			if len(all) > 0 {
				want = all[len(all)-1]
			}
			if got, ok := r.Last(k, branch, epoch); got != want || ok != (len(all) > 0) {
				t.Fatalf("of %d: Last(%q, %d, %d) = %v %v, not %v", len(l), k, branch, epoch, got, ok, want)
			}
		}
	}
}

// P9.2: what is asked of keys that begin and end anywhere in blocks, and go on from one to the next.
func TestAskedOfThreeKeys(t *testing.T) {
	for _, a := range []int{0, 1, 7, 8, 9} {
		for b := range 26 {
			for _, c := range []int{0, 1, 9} {
				checkAsked(t, mixed(a, b, c))
			}
		}
	}
}

// P9.2: what is asked of any runs.
func TestAskedOfAnyRuns(t *testing.T) {
	r := rand.New(rand.NewSource(7))
	for range 60 {
		checkAsked(t, anyRun(r, r.Intn(120)))
	}
	checkAsked(t, spread(70))
}

// P9.2: a key whose versions go on from one block to the next, and fill blocks whole, told one by one.
func TestKeyOverBlocks(t *testing.T) {
	k, l := key(1, "ab"), mixed(5, 20, 5)
	r := opened(t, l)
	if got := r.Of(k); !slices.Equal(got, l[5:25]) {
		t.Errorf("Of = %v", got)
	}
	if got := r.Range(k, key(1, "b")); !slices.Equal(got, l[5:25]) {
		t.Errorf("Range = %v", got)
	}
	if got := r.Range(key(1, "a"), k); !slices.Equal(got, l[:5]) {
		t.Errorf("Range = %v", got)
	}
	if got := r.Range(k, key(1, "c")); !slices.Equal(got, l[5:]) {
		t.Errorf("Range = %v", got)
	}
	for epoch := range 9 {
		got, ok := r.Last(k, 0, epoch)
		if want := l[4+min(3*epoch, 20)]; epoch > 0 && (got != want || !ok) || epoch == 0 && (got != api.Version{} || ok) {
			t.Errorf("Last up to %d = %v %v", epoch, got, ok)
		}
	}
}

// P9.2: Last is that of the branch asked for, whatever others have, and the last one of an epoch.
func TestLast(t *testing.T) {
	k := key(1, "ab")
	v := func(branch, epoch, seq, from int) api.Version {
		return api.Version{Key: k, At: at(branch, epoch, seq), Span: sp(from, 20), Value: "x"}
	}
	l := []api.Version{keyed(key(1, "aa")), v(0, 3, 1, 0), v(0, 3, 2, 0), v(0, 3, 2, 4), v(0, 7, 1, 0), v(2, 1, 9, 0), v(2, 5, 1, 3), v(2, 5, 2, 1), keyed(key(1, "b"))}
	l[3].Value, l[3].Gone = "", true
	r := opened(t, l)
	for _, c := range []struct {
		branch, epoch, want int
	}{
		{0, 2, -1}, {0, 3, 3}, {0, 4, 3}, {0, 6, 3}, {0, 7, 4}, {0, 10000, 4}, {1, 10000, -1}, {2, 0, -1}, {2, 1, 5}, {2, 4, 5}, {2, 5, 7}, {2, 9, 7}, {3, 40, -1}, {-1, 9, -1},
	} {
		got, ok := r.Last(k, c.branch, c.epoch)
		if c.want < 0 && (ok || got != api.Version{}) || c.want >= 0 && (!ok || got != l[c.want]) {
			t.Errorf("Last(%d, %d) = %v %v", c.branch, c.epoch, got, ok)
		}
	}
	for _, other := range []string{"", "ab", key(2, "ab"), key(1, "abc"), key(1, "a"), k + "\x00"} {
		if got, ok := r.Last(other, 0, 10000); ok || got != (api.Version{}) {
			t.Errorf("Last(%q) = %v %v", other, got, ok)
		}
	}
}

// P9.2: of a run without versions nothing is told.
func TestAskedOfNothing(t *testing.T) {
	r := opened(t, nil)
	if b, e := run.Build([]api.Version{}); e != api.OK || string(b) != golden()[0].b {
		t.Errorf("Build of nothing = %v %v", b, e)
	}
	_, ok := r.Last("", 0, 0)
	if r.Len() != 0 || len(r.All()) != 0 || len(r.Of("")) != 0 || len(r.Range("", "\xff")) != 0 || ok {
		t.Errorf("a run without versions has %d", r.Len())
	}
	checkAsked(t, nil)
}

// P9.3: runs of any versions, built and opened again, are the same; two that are not the same have other bytes.
func TestBuiltIsOpened(t *testing.T) {
	seen := map[string]int{}
	for i, l := range lists() {
		b := build(t, l)
		if k, ok := seen[string(b)]; ok && !slices.Equal(lists()[k], l) {
			t.Errorf("two lists have one file: %d and %d", k, i)
		}
		seen[string(b)] = i
		if got := open(t, b).All(); !slices.Equal(got, l) || !bytes.Equal(build(t, got), b) {
			t.Errorf("%v is opened as %v", l, got)
		}
	}
}

// R4: neither what is handed in nor its spare room is changed.
func TestNothingIsChanged(t *testing.T) {
	b := build(t, mixed(3, 9, 3))
	room := append(slices.Clone(b), "and spare room behind it"...)
	was := slices.Clone(room)
	run.Open(room[:len(b)])
	run.Open(room)
	run.Open(room[:20])
	if !bytes.Equal(room, was) {
		t.Errorf("%v was changed to %v", was, room)
	}
	for _, l := range [][]api.Version{mixed(3, 9, 30), {plain(), {}, plain()}, slices.Repeat([]api.Version{plain()}, 20)} {
		wasList := slices.Clone(l)
		for n := range len(l) + 1 {
			run.Build(l[:n])
		}
		if !slices.Equal(l, wasList) {
			t.Errorf("%v was changed to %v", wasList, l)
		}
	}
}

// answers is all that a run tells of many.
func answers(r *run.Run) [][]api.Version {
	return [][]api.Version{r.All(), r.Of(key(1, "a")), r.Of(key(1, "ab")), r.Range("", "\xff"), r.Range(key(1, "ab"), key(1, "b")), r.Of(key(1, "b"))}
}

// same tells whether two lists of answers are.
func same(a, b [][]api.Version) bool { return slices.EqualFunc(a, b, slices.Equal) }

// R4, R5: what is answered is new memory, at each call, its spare room too, and tells the same each time.
func TestAnswersAreNewMemory(t *testing.T) {
	for _, l := range [][]api.Version{mixed(8, 8, 8), mixed(3, 17, 5), mixed(1, 1, 1), mixed(0, 8, 0)} {
		r := opened(t, l)
		want := answers(r)
		for i := range want {
			got := answers(r)
			clear(got[i][:cap(got[i])])
			for k := range got {
				if k != i && !slices.Equal(got[k], want[k]) {
					t.Errorf("the answers %d and %d share memory", i, k)
				}
			}
		}
		if !same(answers(r), want) || !same(answers(opened(t, l)), want) {
			t.Errorf("a run of %d hangs on its answers", len(l))
		}
	}
	one, two := build(t, nine()), build(t, nine())
	clear(one[:cap(one)])
	if string(two) != golden()[3].b || string(build(t, nine())) != golden()[3].b {
		t.Errorf("two answers of Build share memory")
	}
}

// R4: a run hangs on nothing that was handed in, and no run on another one.
func TestNothingIsKept(t *testing.T) {
	l := mixed(3, 17, 5)
	was := slices.Clone(l)
	b := build(t, l)
	clear(l)
	r, again := open(t, b), open(t, b)
	want := answers(r)
	clear(b[:cap(b)])
	if !slices.Equal(r.All(), was) || !same(answers(r), want) {
		t.Errorf("a run hangs on the bytes that it was opened of")
	}
	all := r.All()
	clear(all)
	if !same(answers(again), want) {
		t.Errorf("two runs of the same bytes share memory")
	}
}
