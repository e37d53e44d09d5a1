package vary_test

import (
	"bytes"
	"fmt"
	"math"
	"math/big"
	"math/rand"
	"slices"
	"strings"
	"testing"

	"duramen/api"
	"duramen/vary"
)

// times is n times the byte c, and behind them the bytes of tail.
func times(n int, c byte, tail ...byte) []byte {
	return append(bytes.Repeat([]byte{c}, n), tail...)
}

type goldenNumber struct {
	n int
	b []byte
}

// golden is numbers and their bytes, written out by hand from the document's words.
func golden() []goldenNumber {
	return []goldenNumber{
		{0, []byte{0}},
		{1, []byte{1}},
		{2, []byte{2}},
		{126, []byte{126}},
		{127, []byte{127}},
		{128, []byte{128, 1}},
		{129, []byte{129, 1}},
		{255, []byte{255, 1}},
		{256, []byte{128, 2}},
		{300, []byte{172, 2}},
		{16383, []byte{255, 127}},
		{16384, []byte{128, 128, 1}},
		{16385, []byte{129, 128, 1}},
		{1<<21 - 1, []byte{255, 255, 127}},
		{1 << 21, []byte{128, 128, 128, 1}},
		{1 << 32, []byte{128, 128, 128, 128, 16}},
		{1 << 40, []byte{128, 128, 128, 128, 128, 32}},
		{1<<56 - 1, times(7, 255, 127)},
		{1 << 56, times(8, 128, 1)},
		{1 << 61, times(8, 128, 32)},
		{1<<62 - 1, times(8, 255, 63)},
		{0x0123456789abcdef, []byte{239, 155, 175, 205, 248, 172, 209, 145, 1}},
	}
}

// tooGreat is numbers that are put, but not read.
func tooGreat() []goldenNumber {
	return []goldenNumber{
		{1 << 62, times(8, 128, 64)},
		{1<<62 + 1, append([]byte{129}, times(7, 128, 64)...)},
		{math.MaxInt - 1, append([]byte{254}, times(7, 255, 127)...)},
		{math.MaxInt, times(8, 255, 127)},
	}
}

// turned is numbers, turned.
func turned() [][2]int {
	return [][2]int{
		{0, 0},
		{-1, 1},
		{1, 2},
		{-2, 3},
		{2, 4},
		{-3, 5},
		{3, 6},
		{-64, 127},
		{64, 128},
		{-150, 299},
		{150, 300},
		{1 << 40, 1 << 41},
		{-1 << 40, 1<<41 - 1},
		{1<<61 - 2, 1<<62 - 4},
		{-1<<61 + 1, 1<<62 - 3},
		{1<<61 - 1, 1<<62 - 2},
		{-1 << 61, 1<<62 - 1},
	}
}

// edges is numbers beside the powers of 2, those below 0 too, and the ends of what there is.
func edges() []int {
	l := []int{0, math.MinInt, math.MinInt + 1, math.MaxInt, math.MaxInt - 1}
	for i := range 63 {
		for d := -2; d <= 2; d++ {
			l = append(l, 1<<i+d, -1<<i+d)
		}
	}
	return l
}

// P2.1: Put of one number.
func TestPut(t *testing.T) {
	for _, g := range append(golden(), tooGreat()...) {
		if b := vary.Put(nil, g.n); !bytes.Equal(b, g.b) {
			t.Errorf("Put of %d = %v, not %v", g.n, b, g.b)
		}
	}
}

// P2.1: of one below 0 the bytes of 0.
func TestPutBelowZero(t *testing.T) {
	for _, n := range []int{-1, -2, -127, -128, -129, -300, -1 << 62, math.MinInt + 1, math.MinInt} {
		if b := vary.Put(nil, n); !bytes.Equal(b, []byte{0}) {
			t.Errorf("Put of %d = %v", n, b)
		}
	}
}

// P2.1: all numbers of a call stand one behind the other, behind b.
func TestPutBehind(t *testing.T) {
	for _, c := range []struct {
		b    string
		l    []int
		want string
	}{
		{"", nil, ""},
		{"ab", nil, "ab"},
		{"ab", []int{}, "ab"},
		{"", []int{0, 0}, "\x00\x00"},
		{"ab", []int{7}, "ab\x07"},
		{"\x80", []int{300, -3, 1, 128}, "\x80\xac\x02\x00\x01\x80\x01"},
		{"ab", []int{128, 0, 127, 16384}, "ab\x80\x01\x00\x7f\x80\x80\x01"},
	} {
		if b := vary.Put([]byte(c.b), c.l...); string(b) != c.want {
			t.Errorf("Put(%q, %v) = %q, not %q", c.b, c.l, b, c.want)
		}
	}
	if b := vary.Put(nil); len(b) != 0 {
		t.Errorf("Put of nothing = %v", b)
	}
}

// worth is what the bytes are worth: seven bits each, the lowest first.
func worth(b []byte) *big.Int {
	n := new(big.Int)
	for i, c := range b {
		n.Add(n, new(big.Int).Lsh(big.NewInt(int64(c&127)), uint(7*i)))
	}
	return n
}

// wellMarked tells that all bytes but the last are 128 or more, the last one below.
func wellMarked(b []byte) bool {
	for _, c := range b[:len(b)-1] {
		if c < 128 {
			return false
		}
	}
	return b[len(b)-1] < 128
}

// P2.1: the bytes of a number are worth it, are marked, and are as few as may be.
func TestPutIsAsShortAsMayBe(t *testing.T) {
	for _, n := range edges() {
		b := vary.Put(nil, n)
		if len(b) == 0 || !wellMarked(b) {
			t.Errorf("Put of %d = %v", n, b)
			continue
		}
		if worth(b).Cmp(big.NewInt(int64(max(n, 0)))) != 0 {
			t.Errorf("Put of %d = %v, which is worth %v", n, b, worth(b))
		}
		if len(b) > 1 && b[len(b)-1] == 0 {
			t.Errorf("Put of %d = %v: fewer would do", n, b)
		}
	}
}

// P2.1: Text.
func TestTextPut(t *testing.T) {
	for _, c := range []struct {
		b    string
		l    []string
		want string
	}{
		{"", nil, ""},
		{"ab", nil, "ab"},
		{"", []string{""}, "\x00"},
		{"", []string{"ab"}, "\x02ab"},
		{"", []string{"", "", "a"}, "\x00\x00\x01a"},
		{"xy", []string{"a", "", "bcd"}, "xy\x01a\x00\x03bcd"},
		{"\x01", []string{"\x00\xff\x80"}, "\x01\x03\x00\xff\x80"},
		{"", []string{"é"}, "\x02\xc3\xa9"},
		{"z", []string{strings.Repeat("q", 127)}, "z\x7f" + strings.Repeat("q", 127)},
		{"z", []string{strings.Repeat("q", 128), "r"}, "z\x80\x01" + strings.Repeat("q", 128) + "\x01r"},
		{"", []string{strings.Repeat("q", 300)}, "\xac\x02" + strings.Repeat("q", 300)},
		{"", []string{strings.Repeat("\x00", 16384)}, "\x80\x80\x01" + strings.Repeat("\x00", 16384)},
	} {
		if b := vary.Text([]byte(c.b), c.l...); string(b) != c.want {
			t.Errorf("Text(%q, %q) = %q, not %q", c.b, c.l, b, c.want)
		}
	}
	if b := vary.Text(nil); len(b) != 0 {
		t.Errorf("Text of nothing = %v", b)
	}
}

// P2.1: Turn and Back of what can be turned.
func TestTurnAndBack(t *testing.T) {
	for _, c := range turned() {
		if n := vary.Turn(c[0]); n != c[1] {
			t.Errorf("Turn(%d) = %d, not %d", c[0], n, c[1])
		}
		if n := vary.Back(c[1]); n != c[0] {
			t.Errorf("Back(%d) = %d, not %d", c[1], n, c[0])
		}
	}
}

// P2.1: Turn of what can not be, and of what just can.
func TestTurnOfWhatCanNotBe(t *testing.T) {
	for _, n := range edges() {
		got := vary.Turn(n)
		if n < -1<<61 || n > 1<<61-1 {
			if got != 0 {
				t.Errorf("Turn(%d) = %d", n, got)
			}
			continue
		}
		if vary.Back(got) != n || got < 0 || got >= 1<<62 || got == 0 && n != 0 {
			t.Errorf("Turn(%d) = %d, whose Back is %d", n, got, vary.Back(got))
		}
	}
}

// P2.1: Back of what is below 0, and from 2^62 on, where it goes on as below it.
func TestBackOfTheRest(t *testing.T) {
	for _, n := range []int{-1, -2, -3, -4, -5, -1 << 61, -1 << 62, math.MinInt + 1, math.MinInt} {
		if got := vary.Back(n); got != 0 {
			t.Errorf("Back(%d) = %d", n, got)
		}
	}
	for _, c := range [][2]int{{1 << 62, 1 << 61}, {1<<62 + 1, -1<<61 - 1}, {math.MaxInt - 1, 1<<62 - 1}, {math.MaxInt, -1 << 62}} {
		if got := vary.Back(c[0]); got != c[1] {
			t.Errorf("Back(%d) = %d, not %d", c[0], got, c[1])
		}
	}
}

// P2.1: small numbers are turned to small ones, each to one of its own.
func TestTurnFillsTheNumbers(t *testing.T) {
	got := []int{}
	for n := -500; n < 500; n++ {
		got = append(got, vary.Turn(n))
	}
	slices.Sort(got)
	for i, n := range got {
		if i != n {
			t.Fatalf("%d is missing", i)
		}
	}
}

// state is what a reader tells of itself.
type state struct {
	rest int
	err  api.Errno
}

func stateOf(r *vary.Reader) state {
	return state{r.Rest(), r.Err()}
}

func checkState(t *testing.T, r *vary.Reader, want state) {
	t.Helper()
	if got := stateOf(r); got != want {
		t.Errorf("rest and error %v, not %v", got, want)
	}
}

// checkDown tells that behind the error e all is 0 and empty, and stays so.
func checkDown(t *testing.T, r *vary.Reader, e api.Errno) {
	t.Helper()
	for range 2 {
		checkState(t, r, state{0, e})
		if n := r.Number(); n != 0 {
			t.Errorf("Number behind an error = %d", n)
		}
		if s := r.Text(100); s != "" {
			t.Errorf("Text behind an error = %q", s)
		}
		if s := r.Text(-1); s != "" {
			t.Errorf("Text behind an error = %q", s)
		}
		if n := r.Turned(); n != 0 {
			t.Errorf("Turned behind an error = %d", n)
		}
		checkState(t, r, state{0, e})
	}
}

// P2.2: a reader that has read nothing has no error.
func TestReaderAtItsBeginning(t *testing.T) {
	for _, b := range [][]byte{nil, {}, {0}, {128}, times(20, 255), {5, 6, 7}} {
		checkState(t, vary.Read(b), state{len(b), api.OK})
	}
}

// P2.2: Number of each number's bytes, and that the reader is behind them.
func TestNumber(t *testing.T) {
	for _, g := range golden() {
		r := vary.Read(g.b)
		if n := r.Number(); n != g.n {
			t.Errorf("Number of %v = %d, not %d", g.b, n, g.n)
		}
		checkState(t, r, state{0, api.OK})
		r = vary.Read(append(slices.Clone(g.b), 200, 0, 9))
		if n := r.Number(); n != g.n {
			t.Errorf("Number of %v and more = %d, not %d", g.b, n, g.n)
		}
		checkState(t, r, state{3, api.OK})
	}
}

// P2.2: one number behind the other, and ErrShort where there is none any more.
func TestNumbers(t *testing.T) {
	var b []byte
	for _, g := range golden() {
		b = append(b, g.b...)
	}
	r, rest := vary.Read(b), len(b)
	for _, g := range golden() {
		if n := r.Number(); n != g.n {
			t.Errorf("Number = %d, not %d", n, g.n)
		}
		rest -= len(g.b)
		checkState(t, r, state{rest, api.OK})
	}
	if n := r.Number(); n != 0 {
		t.Errorf("Number of nothing = %d", n)
	}
	checkDown(t, r, api.ErrShort)
}

// noNumbers is bytes that begin with no number's, and the error that tells so.
func noNumbers() []struct {
	b    []byte
	want api.Errno
} {
	return []struct {
		b    []byte
		want api.Errno
	}{
		{nil, api.ErrShort},
		{[]byte{}, api.ErrShort},
		{[]byte{128}, api.ErrShort},
		{[]byte{255}, api.ErrShort},
		{[]byte{172}, api.ErrShort},
		{[]byte{128, 128}, api.ErrShort},
		{times(8, 128), api.ErrShort},
		{times(8, 255), api.ErrShort},
		{times(9, 128), api.ErrBytes},
		{times(9, 255), api.ErrBytes},
		{times(9, 128, 0), api.ErrBytes},
		{times(9, 128, 1), api.ErrBytes},
		{times(9, 255, 1), api.ErrBytes},
		{times(10, 128), api.ErrBytes},
		{times(30, 255), api.ErrBytes},
		{[]byte{128, 0}, api.ErrBytes},
		{[]byte{255, 0}, api.ErrBytes},
		{[]byte{129, 0, 5}, api.ErrBytes},
		{[]byte{128, 128, 0}, api.ErrBytes},
		{[]byte{172, 130, 0}, api.ErrBytes},
		{times(7, 255, 0), api.ErrBytes},
		{times(8, 128, 0), api.ErrBytes},
		{times(8, 255, 0), api.ErrBytes},
		{times(8, 128, 64), api.ErrBytes},
		{times(8, 128, 65), api.ErrBytes},
		{times(8, 255, 64), api.ErrBytes},
		{times(8, 128, 127), api.ErrBytes},
		{times(8, 255, 127), api.ErrBytes},
		{times(8, 255, 127, 1, 2), api.ErrBytes},
	}
}

// P2.2: the errors of Number, which Turned and Text tell, too, and what is behind them.
func TestNumberErrors(t *testing.T) {
	for _, c := range noNumbers() {
		for name, ask := range map[string]func(r *vary.Reader) bool{
			"Number":         func(r *vary.Reader) bool { return r.Number() == 0 },
			"Turned":         func(r *vary.Reader) bool { return r.Turned() == 0 },
			"Text(100)":      func(r *vary.Reader) bool { return r.Text(100) == "" },
			"Text(-1)":       func(r *vary.Reader) bool { return r.Text(-1) == "" },
			"Text(greatest)": func(r *vary.Reader) bool { return r.Text(math.MaxInt) == "" },
		} {
			r := vary.Read(c.b)
			if !ask(r) || r.Err() != c.want {
				t.Errorf("%s of %v: %v, not %v", name, c.b, r.Err(), c.want)
			}
			checkDown(t, r, c.want)
		}
	}
}

// P2.2: the first error stays, whatever would come behind it.
func TestFirstErrorStays(t *testing.T) {
	r := vary.Read([]byte{128, 0, 1, 2, 3})
	r.Number()
	checkDown(t, r, api.ErrBytes)
	r = vary.Read([]byte("\x07\x03ab"))
	if n := r.Number(); n != 7 {
		t.Errorf("Number = %d", n)
	}
	checkState(t, r, state{3, api.OK})
	r.Text(10)
	checkDown(t, r, api.ErrShort)
	r = vary.Read([]byte("\x02ab\x01"))
	r.Text(1)
	checkDown(t, r, api.ErrLong)
	r = vary.Read([]byte{5})
	r.Number()
	checkState(t, r, state{0, api.OK})
	r.Number()
	checkDown(t, r, api.ErrShort)
}

// P2.2: Turned.
func TestTurned(t *testing.T) {
	for _, c := range turned() {
		r := vary.Read(vary.Put(nil, c[1], 9))
		if n := r.Turned(); n != c[0] {
			t.Errorf("Turned of %d = %d, not %d", c[1], n, c[0])
		}
		checkState(t, r, state{1, api.OK})
	}
}

// P2.2: Text of what is a text, as long as may be.
func TestTextRead(t *testing.T) {
	long := strings.Repeat("q", 300)
	for _, c := range []struct {
		b    string
		most int
		want string
		rest int
	}{
		{"\x00", 0, "", 0},
		{"\x00", 5, "", 0},
		{"\x00", math.MaxInt, "", 0},
		{"\x00ab", 0, "", 2},
		{"\x01a", 1, "a", 0},
		{"\x02abc", 2, "ab", 1},
		{"\x02abc", 3, "ab", 1},
		{"\x03\x00\xff\x80", 3, "\x00\xff\x80", 0},
		{"\x03\x00\xff\x80", math.MaxInt, "\x00\xff\x80", 0},
		{"\xac\x02" + long + "z", 300, long, 1},
		{"\xac\x02" + long + "z", 1 << 40, long, 1},
	} {
		r := vary.Read([]byte(c.b))
		if s := r.Text(c.most); s != c.want {
			t.Errorf("Text(%d) of %q = %q, not %q", c.most, c.b, s, c.want)
		}
		checkState(t, r, state{c.rest, api.OK})
	}
}

// P2.2: Text's own errors; that it is too long is told ahead of that it is too short.
func TestTextErrors(t *testing.T) {
	for _, c := range []struct {
		b    []byte
		most int
		want api.Errno
	}{
		{[]byte("\x00"), -1, api.ErrLong},
		{[]byte("\x00"), math.MinInt, api.ErrLong},
		{[]byte("\x01a"), 0, api.ErrLong},
		{[]byte("\x01a"), -1, api.ErrLong},
		{[]byte("\x03abc"), 2, api.ErrLong},
		{[]byte("\x03a"), 2, api.ErrLong},
		{[]byte("\x03"), 2, api.ErrLong},
		{times(8, 255, 63), 1<<62 - 2, api.ErrLong},
		{times(8, 255, 63), 1<<62 - 1, api.ErrShort},
		{times(8, 255, 63), math.MaxInt, api.ErrShort},
		{append(times(8, 128, 1), "abc"...), math.MaxInt, api.ErrShort},
		{[]byte("\x01"), 1, api.ErrShort},
		{[]byte("\x03ab"), 3, api.ErrShort},
		{[]byte("\x03"), math.MaxInt, api.ErrShort},
		{[]byte("\x80\x00a"), -1, api.ErrBytes},
		{[]byte("\x80"), -1, api.ErrShort},
		{times(8, 128, 64), 0, api.ErrBytes},
	} {
		r := vary.Read(c.b)
		if s := r.Text(c.most); s != "" {
			t.Errorf("Text(%d) of %q = %q", c.most, c.b, s)
		}
		checkDown(t, r, c.want)
	}
}

// slowNumber is Number, said another way: of all beginnings of b the one that is just what is put of some number.
func slowNumber(b []byte) (n, size int, e api.Errno) {
	for k := 1; k <= min(9, len(b)); k++ {
		w := worth(b[:k])
		if w.Cmp(big.NewInt(1<<62)) < 0 && bytes.Equal(vary.Put(nil, int(w.Int64())), b[:k]) {
			return int(w.Int64()), k, api.OK
		}
	}
	for i := range min(9, len(b)) {
		if b[i] < 128 {
			return 0, 0, api.ErrBytes
		}
	}
	if len(b) < 9 {
		return 0, 0, api.ErrShort
	}
	return 0, 0, api.ErrBytes
}

func checkNumber(t *testing.T, b []byte) {
	t.Helper()
	want, size, e := slowNumber(b)
	rest := len(b) - size
	if e != api.OK {
		rest = 0
	}
	r := vary.Read(b)
	if n := r.Number(); n != want || stateOf(r) != (state{rest, e}) {
		t.Fatalf("Number of %v = %d, rest and error %v, not %d, %d %v", b, n, stateOf(r), want, rest, e)
	}
}

// P2.2: Number of all short bytes of the ones that matter, and of such behind others that go on.
func TestNumberOfAllShortBytes(t *testing.T) {
	letters := []byte{0, 1, 63, 64, 127, 128, 129, 255}
	var all func(b []byte, left int)
	all = func(b []byte, left int) {
		checkNumber(t, b)
		for _, n := range []int{5, 6, 7, 8} {
			checkNumber(t, append(times(n, 128), b...))
			checkNumber(t, append(times(n, 255), b...))
		}
		if left == 0 {
			return
		}
		for _, c := range letters {
			all(append(slices.Clip(b), c), left-1)
		}
	}
	all(nil, 4)
}

// thing is a number, a number turned, or a text.
type thing struct {
	kind   int
	number int
	text   string
}

func (x thing) String() string {
	return fmt.Sprintf("(%d %d %q)", x.kind, x.number, x.text)
}

func anyThing(r *rand.Rand) thing {
	switch r.Intn(3) {
	case 0:
		return thing{kind: 0, number: int(r.Uint64()>>2) >> r.Intn(63)}
	case 1:
		return thing{kind: 1, number: (int(r.Uint64()>>3) >> r.Intn(62)) ^ -r.Intn(2)}
	}
	b := make([]byte, r.Intn(200)*r.Intn(2))
	r.Read(b)
	return thing{kind: 2, text: string(b)}
}

func put(b []byte, l []thing) []byte {
	for _, x := range l {
		switch x.kind {
		case 0:
			b = vary.Put(b, x.number)
		case 1:
			b = vary.Put(b, vary.Turn(x.number))
		case 2:
			b = vary.Text(b, x.text)
		}
	}
	return b
}

func next(r *vary.Reader, kind int) thing {
	switch kind {
	case 0:
		return thing{kind: 0, number: r.Number()}
	case 1:
		return thing{kind: 1, number: r.Turned()}
	}
	return thing{kind: 2, text: r.Text(200)}
}

// P2.3: what is put is read, to the last byte.
func TestWhatIsPutIsRead(t *testing.T) {
	rnd := rand.New(rand.NewSource(1))
	for range 5000 {
		var l []thing
		for range rnd.Intn(8) {
			l = append(l, anyThing(rnd))
		}
		r := vary.Read(put(nil, l))
		for i, x := range l {
			if got := next(r, x.kind); got != x {
				t.Fatalf("thing %d of %v is read as %v, %v", i, l, got, r.Err())
			}
		}
		if stateOf(r) != (state{0, api.OK}) {
			t.Fatalf("behind %v: %v", l, stateOf(r))
		}
	}
}

// P2.3: the same of the edges: each number below 2^62, each that can be turned.
func TestEdgesThatArePutAreRead(t *testing.T) {
	for _, n := range edges() {
		r := vary.Read(vary.Put(nil, n))
		if n >= 1<<62 {
			r.Number()
			checkDown(t, r, api.ErrBytes)
			continue
		}
		if got := r.Number(); got != max(n, 0) {
			t.Errorf("%d is read as %d", n, got)
		}
		checkState(t, r, state{0, api.OK})
		if n < -1<<61 || n >= 1<<61 {
			continue
		}
		r = vary.Read(vary.Put(nil, vary.Turn(n)))
		if got := r.Turned(); got != n {
			t.Errorf("%d, turned, is read as %d", n, got)
		}
		checkState(t, r, state{0, api.OK})
	}
}

// P2.3: each beginning of what is put ends too soon, and is read up to there.
func TestBeginningsOfWhatIsPut(t *testing.T) {
	b := vary.Text(vary.Put(nil, 300, 1<<62-1), "abc", "")
	whole := func(r *vary.Reader) {
		r.Number()
		r.Number()
		r.Text(3)
		r.Text(3)
	}
	for i := range len(b) {
		r := vary.Read(b[:i])
		whole(r)
		checkDown(t, r, api.ErrShort)
	}
	r := vary.Read(b)
	whole(r)
	checkState(t, r, state{0, api.OK})
}

// R4: neither what is handed in nor its spare room is changed by what puts.
func TestSpareRoomIsLeft(t *testing.T) {
	room := []byte("abcdefghijklmnop")
	for name, f := range map[string]func(b []byte) []byte{
		"Put":          func(b []byte) []byte { return vary.Put(b, 1, 300, 0) },
		"Put, none":    func(b []byte) []byte { return vary.Put(b) },
		"Text":         func(b []byte) []byte { return vary.Text(b, "xyz", "") },
		"Text, none":   func(b []byte) []byte { return vary.Text(b) },
		"Put, nothing": func(b []byte) []byte { return vary.Put(b[:0]) },
	} {
		kept := slices.Clone(room)
		out := f(room[:3])
		said := slices.Clone(out)
		if !bytes.Equal(room, kept) {
			t.Errorf("%s changed what was handed in: %q", name, room)
		}
		other := f(room[:3])
		clear(other[:cap(other)])
		if !bytes.Equal(room, kept) || !bytes.Equal(out, said) {
			t.Errorf("%s: its answer is no new memory: %q, %q", name, room, out)
		}
		clear(room)
		if !bytes.Equal(out, said) {
			t.Errorf("%s: its answer hangs on what was handed in: %q", name, out)
		}
		copy(room, kept)
	}
	l := append(make([]int, 0, 3), -5, 300)
	vary.Put(nil, l...)
	if !slices.Equal(l[:3], []int{-5, 300, 0}) {
		t.Errorf("the numbers were changed: %v", l[:3])
	}
	s := append(make([]string, 0, 3), "a", "b")
	vary.Text(nil, s...)
	if !slices.Equal(s[:3], []string{"a", "b", ""}) {
		t.Errorf("the texts were changed: %q", s[:3])
	}
}

// R4: a reader keeps nothing of what it was handed, and changes nothing of it.
func TestReaderKeepsNothing(t *testing.T) {
	b := vary.Put(vary.Text(vary.Put(nil, 300), "abc"), 5, 7)
	kept := slices.Clone(b)
	r, other := vary.Read(b), vary.Read(b)
	if n := r.Number(); n != 300 {
		t.Errorf("Number = %d", n)
	}
	checkState(t, other, state{len(b), api.OK})
	if !bytes.Equal(b, kept) {
		t.Errorf("what was handed in was changed: %v", b)
	}
	for i := range b {
		b[i] = 255
	}
	if s := r.Text(3); s != "abc" {
		t.Errorf("Text = %q", s)
	}
	if n, m := r.Number(), r.Turned(); n != 5 || m != -4 {
		t.Errorf("Number, Turned = %d, %d", n, m)
	}
	if n := other.Number(); n != 300 {
		t.Errorf("the other reader's Number = %d", n)
	}
	checkState(t, r, state{0, api.OK})
	checkState(t, other, state{6, api.OK})
}

// R1: no call panics, whatever bytes are read, in whatever order.
func TestAnyBytesAreRead(t *testing.T) {
	rnd := rand.New(rand.NewSource(2))
	for range 20000 {
		b := make([]byte, rnd.Intn(30))
		rnd.Read(b)
		r, rest := vary.Read(b), len(b)
		for range 12 {
			got := next(r, rnd.Intn(3))
			if r.Err() != api.OK && (got.number != 0 || got.text != "" || r.Rest() != 0) || r.Err() == api.OK && r.Rest() >= rest {
				t.Fatalf("%v: %v, %v", b, got, stateOf(r))
			}
			rest = r.Rest()
		}
	}
}
