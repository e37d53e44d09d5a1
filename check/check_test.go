package check_test

import (
	"bytes"
	"encoding/binary"
	"hash/crc32"
	"math/rand"
	"slices"
	"strings"
	"testing"

	"duramen/api"
	"duramen/check"
)

// junk is n bytes that are the same each time.
func junk(seed int64, n int) []byte {
	b := make([]byte, n)
	rand.New(rand.NewSource(seed)).Read(b)
	return b
}

func join(l ...[]byte) []byte {
	return slices.Concat(l...)
}

// texts is the lists of bytes of texts.
func texts(l ...string) [][]byte {
	var out [][]byte
	for _, s := range l {
		out = append(out, []byte(s))
	}
	return out
}

func same(a, b [][]byte) bool {
	return slices.EqualFunc(a, b, bytes.Equal)
}

// framed is a frame, made by the library's own sum and words.
func framed(b []byte) []byte {
	out := binary.LittleEndian.AppendUint32(nil, uint32(len(b)))
	out = binary.LittleEndian.AppendUint32(out, crc32.ChecksumIEEE(b))
	return append(out, b...)
}

type goldenFrame struct {
	b string
	f []byte
}

// golden is bytes and their frames, written out by hand.
func golden() []goldenFrame {
	return []goldenFrame{
		{"", []byte{0, 0, 0, 0, 0, 0, 0, 0}},
		{"\x00", []byte{1, 0, 0, 0, 0x8d, 0xef, 0x02, 0xd2, 0}},
		{"\xff", []byte{1, 0, 0, 0, 0x00, 0x00, 0x00, 0xff, 255}},
		{"a", []byte{1, 0, 0, 0, 0x43, 0xbe, 0xb7, 0xe8, 97}},
		{"abc", []byte{3, 0, 0, 0, 0xc2, 0x41, 0x24, 0x35, 97, 98, 99}},
		{"123456789", []byte{9, 0, 0, 0, 0x26, 0x39, 0xf4, 0xcb, 49, 50, 51, 52, 53, 54, 55, 56, 57}},
	}
}

// bodies is lists that are framed: none, empty ones, ones that look like frames themselves, ones whose length needs more bytes than one.
func bodies() [][][]byte {
	frame := string(framed([]byte("abc")))
	return [][][]byte{
		nil,
		{},
		{nil},
		texts(""),
		texts("", "", ""),
		texts("a"),
		texts("a", ""),
		texts("", "a"),
		texts("abc", "abc", "abc"),
		texts("abc", "", "123456789", "\x00", "\xff\xff"),
		texts(strings.Repeat("\x00", 7), strings.Repeat("\x00", 8), strings.Repeat("\x00", 9)),
		texts(frame, "x"+frame, frame+frame, frame[:len(frame)-1], frame[1:]),
		texts(string(junk(1, 254)), string(junk(2, 255)), string(junk(3, 256)), string(junk(4, 257))),
		texts(string(junk(5, 65535)), string(junk(6, 65536)), "z"),
	}
}

// P3.1: Sum.
func TestSum(t *testing.T) {
	for s, want := range map[string]int{
		"":                         0,
		"\x00":                     0xd202ef8d,
		"\x00\x00":                 0x41d912ff,
		"\x00\x00\x00\x00":         0x2144df1c,
		"\xff":                     0xff000000,
		"\xff\xff\xff\xff":         0xffffffff,
		"a":                        0xe8b7be43,
		"abc":                      0x352441c2,
		"message digest":           0x20159d7f,
		"123456789":                3421780262,
		strings.Repeat("\x00", 32): 0x190a55ad,
		strings.Repeat("\xff", 32): 0xff6cab0b,
		"The quick brown fox jumps over the lazy dog": 0x414fa339,
	} {
		if got := check.Sum([]byte(s)); got != want {
			t.Errorf("Sum(%q) = %d, not %d", s, got, want)
		}
	}
	if got := check.Sum(nil); got != 0 {
		t.Errorf("Sum(nil) = %d", got)
	}
}

// P3.1: Sum of each byte, each two, and of many.
func TestSumOfAll(t *testing.T) {
	checkSum := func(b []byte) {
		if got := check.Sum(b); got != int(crc32.ChecksumIEEE(b)) {
			t.Fatalf("Sum of %d bytes %v = %d", len(b), b[:min(len(b), 20)], got)
		}
	}
	for i := range 256 {
		checkSum([]byte{byte(i)})
		for k := range 256 {
			checkSum([]byte{byte(i), byte(k)})
		}
	}
	r := rand.New(rand.NewSource(1))
	for n := range 600 {
		checkSum(junk(r.Int63(), n))
	}
	checkSum(junk(9, 1<<20+1))
}

// P3.1: Sum, said as the document says it, bit by bit.
func TestSumByTheWords(t *testing.T) {
	for n := range 40 {
		b := junk(int64(n), n)
		register := 1<<32 - 1
		for _, c := range b {
			register ^= int(c)
			for i := 0; i < 8; i++ {
				fell := register % 2
				register /= 2
				if fell == 1 {
					register ^= 3988292384
				}
			}
		}
		register ^= 1<<32 - 1
		if got := check.Sum(b); got != register {
			t.Errorf("Sum(%v) = %d, not %d", b, got, register)
		}
	}
}

// P3.1: Frame of one.
func TestFrame(t *testing.T) {
	for _, g := range golden() {
		if f := check.Frame([]byte(g.b)); !bytes.Equal(f, g.f) {
			t.Errorf("Frame(%q) = %v, not %v", g.b, f, g.f)
		}
	}
	if f := check.Frame([]byte(nil)); !bytes.Equal(f, make([]byte, 8)) {
		t.Errorf("Frame of nil = %v", f)
	}
}

// P3.1: Frame of none, and of many, one behind the other.
func TestFrameOfMany(t *testing.T) {
	if f := check.Frame(); len(f) != 0 {
		t.Errorf("Frame of none = %v", f)
	}
	for i, l := range bodies() {
		var want []byte
		for _, b := range l {
			want = append(want, framed(b)...)
		}
		if f := check.Frame(l...); !bytes.Equal(f, want) {
			t.Errorf("Frame of list %d is another one", i)
		}
	}
	var all [][]byte
	var want []byte
	for _, g := range golden() {
		all, want = append(all, []byte(g.b)), append(want, g.f...)
	}
	if f := check.Frame(all...); !bytes.Equal(f, want) {
		t.Errorf("Frame of all = %v, not %v", f, want)
	}
}

// P3.1, P3.2: a length of which each byte of its four matters.
func TestGreatFrame(t *testing.T) {
	b := junk(7, 1<<24+2<<16+3<<8+4)
	f := check.Frame(b)
	if !bytes.Equal(f[:4], []byte{4, 3, 2, 1}) || !bytes.Equal(f, framed(b)) {
		t.Fatalf("the frame begins with %v", f[:8])
	}
	if got, e := check.One(f); e != api.OK || !bytes.Equal(got, b) {
		t.Errorf("One: %v", e)
	}
	if l, n := check.Frames(f); n != len(f) || !same(l, [][]byte{b}) {
		t.Errorf("Frames: %d, %d bytes", len(l), n)
	}
	if l, n := check.Frames(f[:len(f)-1]); len(l) != 0 || n != 0 {
		t.Errorf("Frames of a beginning: %d, %d bytes", len(l), n)
	}
}

func checkFrames(t *testing.T, b []byte, want [][]byte, size int) {
	t.Helper()
	l, n := check.Frames(b)
	if n != size || !same(l, want) {
		t.Fatalf("Frames of %d bytes: %d frames, %d bytes, not %d frames, %d bytes", len(b), len(l), n, len(want), size)
	}
}

func checkOne(t *testing.T, b, want []byte, e api.Errno) {
	t.Helper()
	got, gotE := check.One(b)
	if gotE != e || !bytes.Equal(got, want) {
		t.Fatalf("One of %d bytes %v = %v %v, not %v %v", len(b), b[:min(len(b), 20)], got, gotE, want, e)
	}
}

// P3.2: One of a frame.
func TestOne(t *testing.T) {
	for _, g := range golden() {
		checkOne(t, g.f, []byte(g.b), api.OK)
	}
}

// P3.2: One's errors, and which of them is told where several apply.
func TestOneErrors(t *testing.T) {
	abc := framed([]byte("abc"))
	spoilt := slices.Clone(abc)
	spoilt[9]++
	for _, c := range []struct {
		b    []byte
		want api.Errno
	}{
		{nil, api.ErrShort},
		{[]byte{}, api.ErrShort},
		{[]byte{0}, api.ErrShort},
		{make([]byte, 7), api.ErrShort},
		{make([]byte, 9), api.ErrBytes},
		{make([]byte, 16), api.ErrBytes},
		{[]byte{0, 0, 0, 0, 1, 0, 0, 0}, api.ErrSum},
		{[]byte{0, 0, 0, 0, 0, 0, 0, 1}, api.ErrSum},
		{[]byte{0, 0, 0, 0, 1, 0, 0, 0, 0}, api.ErrBytes},
		{[]byte{1, 0, 0, 0, 0, 0, 0, 0}, api.ErrShort},
		{[]byte{1, 0, 0, 0, 0, 0, 0, 0, 0}, api.ErrSum},
		{[]byte{0, 1, 0, 0, 0, 0, 0, 0, 0}, api.ErrShort},
		{[]byte{0, 0, 1, 0, 0, 0, 0, 0, 0}, api.ErrShort},
		{[]byte{0, 0, 0, 1, 0, 0, 0, 0, 0}, api.ErrShort},
		{[]byte{0, 0, 0, 128, 0, 0, 0, 0, 0}, api.ErrShort},
		{bytes.Repeat([]byte{255}, 8), api.ErrShort},
		{bytes.Repeat([]byte{255}, 300), api.ErrShort},
		{spoilt, api.ErrSum},
		{spoilt[:10], api.ErrShort},
		{join(spoilt, []byte{0}), api.ErrBytes},
		{join(spoilt, abc), api.ErrBytes},
		{join(abc, []byte{0}), api.ErrBytes},
		{join(abc, abc), api.ErrBytes},
		{join([]byte{0}, abc), api.ErrShort},
	} {
		checkOne(t, c.b, nil, c.want)
	}
}

// P3.2: each beginning of a frame ends too soon, whatever is wrong with it else.
func TestOneOfBeginnings(t *testing.T) {
	for _, s := range []string{"", "a", "abc", string(junk(1, 300))} {
		f := framed([]byte(s))
		for i := range f {
			checkOne(t, f[:i], nil, api.ErrShort)
		}
		f[4]++
		for i := range f {
			checkOne(t, f[:i], nil, api.ErrShort)
		}
	}
}

// P3.2: a bit that is another one is told, wherever it stands.
func TestOneOfSpoiltBits(t *testing.T) {
	for _, s := range []string{"", "a", "abc", string(junk(1, 260))} {
		for bit := range 8 * (8 + len(s)) {
			f := framed([]byte(s))
			f[bit/8] ^= 1 << (bit % 8)
			want := api.ErrSum
			switch size := int(binary.LittleEndian.Uint32(f)); {
			case size > len(s):
				want = api.ErrShort
			case size < len(s):
				want = api.ErrBytes
			}
			checkOne(t, f, nil, want)
		}
	}
}

// P3.2: bytes whose places are changed have another sum, and so does a frame whose head is another one's.
func TestOneOfOthersHeads(t *testing.T) {
	f := framed([]byte("abcdef"))
	f[8], f[9] = f[9], f[8]
	checkOne(t, f, nil, api.ErrSum)
	checkOne(t, join(framed([]byte("abcdef"))[:8], []byte("abcdeg")), nil, api.ErrSum)
	// The sum and the length have changed their places.
	a := framed([]byte("a"))
	checkOne(t, join(a[4:8], a[:4], a[8:]), nil, api.ErrShort)
	// The sum's bytes, the highest first.
	checkOne(t, []byte{1, 0, 0, 0, 0xe8, 0xb7, 0xbe, 0x43, 97}, nil, api.ErrSum)
}

// P3.2: Frames of what begins with none.
func TestFramesOfNone(t *testing.T) {
	for _, b := range [][]byte{
		nil,
		{},
		{0},
		make([]byte, 7),
		{0, 0, 0, 0, 1, 0, 0, 0},
		{1, 0, 0, 0, 0, 0, 0, 0},
		{1, 0, 0, 0, 0, 0, 0, 0, 0},
		bytes.Repeat([]byte{255}, 100),
		join([]byte{1}, framed([]byte("abc"))),
		[]byte("abc"),
		framed([]byte("abc"))[:10],
	} {
		checkFrames(t, b, nil, 0)
	}
}

// P3.2: bytes 0 are frames of nothing.
func TestFramesOfZeros(t *testing.T) {
	for n := range 40 {
		want := texts(slices.Repeat([]string{""}, n/8)...)
		checkFrames(t, make([]byte, n), want, n/8*8)
	}
}

// P3.2: a frame that is spoilt, or ends too soon, ends what is told, also where whole ones stand behind it.
func TestFramesUpToWhatIsSpoilt(t *testing.T) {
	list := texts("abc", "", "defgh", "i")
	ends := []int{0}
	for i := range list {
		ends = append(ends, len(check.Frame(list[:i+1]...)))
	}
	whole := check.Frame(list...)
	for i := range whole {
		k := 0
		for ends[k+1] <= i {
			k++
		}
		checkFrames(t, whole[:i], list[:k], ends[k])
		for bit := range 8 {
			b := slices.Clone(whole)
			b[i] ^= 1 << bit
			checkFrames(t, b, list[:k], ends[k])
		}
	}
	checkFrames(t, whole, list, len(whole))
}

// P3.3: what is framed is read, with nothing behind it, and with what is no frame behind it.
func TestWhatIsFramedIsRead(t *testing.T) {
	tails := [][]byte{
		nil,
		{0},
		make([]byte, 7),
		{255, 255, 255, 255, 0, 0, 0, 0, 1, 2, 3},
		{3, 0, 0, 0, 0, 0, 0, 0, 97, 98, 99},
		framed([]byte("abc"))[:10],
		framed([]byte("abc"))[1:],
		join([]byte{1, 0, 0, 0, 0, 0, 0, 0, 9}, framed([]byte("abc"))),
	}
	for _, l := range bodies() {
		f := check.Frame(l...)
		for _, tail := range tails {
			checkFrames(t, join(f, tail), l, len(f))
		}
		for _, b := range l {
			checkOne(t, check.Frame(b), b, api.OK)
		}
		if len(l) > 1 {
			checkOne(t, f, nil, api.ErrBytes)
		}
	}
}

// P3.3: frames of frames are read one in the other.
func TestFramesWithinFrames(t *testing.T) {
	list := texts("abc", "", "\x00\x00")
	inner := check.Frame(list...)
	b := check.Frame(inner, inner)
	l, n := check.Frames(b)
	if n != len(b) || len(l) != 2 {
		t.Fatalf("%d frames, %d bytes", len(l), n)
	}
	for _, f := range l {
		checkFrames(t, f, list, len(inner))
	}
}

// slowFrames is Frames, said another way: of all the ways to cut b the one whose pieces are just what is framed.
func slowFrames(b []byte) ([][]byte, int) {
	for n := 8; n <= len(b); n++ {
		if bytes.Equal(framed(b[8:n]), b[:n]) {
			l, size := slowFrames(b[n:])
			return append([][]byte{b[8:n]}, l...), n + size
		}
	}
	return nil, 0
}

// P3.2, P3.3: any list, any bytes behind it, any of them spoilt.
func TestAnyFrames(t *testing.T) {
	r := rand.New(rand.NewSource(3))
	for range 4000 {
		var l [][]byte
		for range r.Intn(5) {
			l = append(l, junk(r.Int63(), r.Intn(2)*r.Intn(30)))
		}
		f := check.Frame(l...)
		if got, n := check.Frames(f); n != len(f) || !same(got, l) {
			t.Fatalf("%v is read as %v, %d bytes", l, got, n)
		}
		f = append(f, junk(r.Int63(), r.Intn(20))...)
		for range 2 {
			want, size := slowFrames(f)
			checkFrames(t, f, want, size)
			if len(f) > 0 {
				f[r.Intn(len(f))] = byte(r.Intn(4))
			}
		}
	}
}

// P3.2, R1: no bytes make a call panic; One tells OK just of what is framed so.
func TestAnyBytes(t *testing.T) {
	r := rand.New(rand.NewSource(4))
	for range 20000 {
		b := make([]byte, r.Intn(24))
		for i := range b {
			b[i] = "\x00\x00\x00\x01\x02\x08\x8d\xff"[r.Intn(8)]
		}
		got, e := check.One(b)
		if (e == api.OK) != bytes.Equal(framed(got), b) || e != api.OK && len(got) != 0 {
			t.Fatalf("One(%v) = %v %v", b, got, e)
		}
		want, size := slowFrames(b)
		checkFrames(t, b, want, size)
	}
}

// R4: neither what is handed in nor its spare room is changed.
func TestNothingIsChanged(t *testing.T) {
	room := bytes.Repeat([]byte("abcdefgh"), 4)
	kept := slices.Clone(room)
	list := append(make([][]byte, 0, 3), room[:3], room[3:8])
	check.Frame(list...)
	check.Sum(room[:3])
	if !bytes.Equal(room, kept) {
		t.Errorf("what was handed in was changed: %q", room)
	}
	if list = list[:3]; !same(list, [][]byte{room[:3], room[3:8], nil}) || &list[0][0] != &room[0] || &list[1][0] != &room[3] {
		t.Errorf("the list was changed: %q", list)
	}
	f := append(make([]byte, 0, 100), check.Frame(room[:3], room[3:8])...)
	kept = slices.Clone(f[:100])
	check.Frames(f)
	check.One(f)
	check.One(f[:11])
	if !bytes.Equal(f[:100], kept) {
		t.Errorf("what was read was changed: %v", f[:100])
	}
}

// R4: what is answered is new memory, and no two lists of it share any.
func TestAnswersAreNewMemory(t *testing.T) {
	b := []byte("abc")
	f := check.Frame(b)
	other := check.Frame(b)
	clear(other[:cap(other)])
	b[0] = 'x'
	if want := framed([]byte("abc")); !bytes.Equal(f, want) {
		t.Errorf("Frame's answer hangs on something else: %v", f)
	}
	one, _ := check.One(f)
	list := texts("abc", "", "defgh", "")
	whole := check.Frame(list...)
	l, _ := check.Frames(whole)
	clear(f)
	clear(whole)
	if !bytes.Equal(one, []byte("abc")) || !same(l, list) {
		t.Errorf("the answers hang on what was handed in: %q, %q", one, l)
	}
	for i := range l {
		for k := range l {
			if i != k {
				room := l[k][:cap(l[k])]
				for j := range room {
					room[j] = '-'
				}
			}
		}
		if !bytes.Equal(l[i], list[i]) {
			t.Errorf("frame %d shares memory with another one: %q", i, l[i])
		}
		whole = check.Frame(list...)
		l, _ = check.Frames(whole)
	}
}

// R4: an answer can grow without a change of what was handed in.
func TestAnswersGrowAlone(t *testing.T) {
	whole := check.Frame(texts("abc", "", "defgh")...)
	kept := slices.Clone(whole)
	l, _ := check.Frames(whole)
	for _, b := range l {
		_ = append(b, '-', '-')
	}
	one, _ := check.One(whole[:11])
	_ = append(one, '-', '-')
	if !bytes.Equal(whole, kept) || !same(l, texts("abc", "", "defgh")) {
		t.Errorf("what was handed in was changed: %v", whole)
	}
}
