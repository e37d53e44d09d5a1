package plane_test

import (
	"math"
	"math/big"
	"math/rand"
	"slices"
	"testing"

	"duramen/api"
	"duramen/plane"
)

const (
	most  = 1 << 40
	units = 3 // so many epochs, and times, have the rectangles that are made one and all
)

// sides is a rectangle as Sides tells it.
type sides struct {
	from, to int
	span     api.Span
}

func sp(from, to int) api.Span {
	return api.Span{From: from, To: to}
}

func box(from, to, begin, end int) sides {
	return sides{from, to, sp(begin, end)}
}

// of is a rectangle that may be.
func of(t *testing.T, s sides) plane.Rect {
	t.Helper()
	r, ok := plane.Of(s.from, s.to, s.span)
	if !ok {
		t.Fatalf("Of(%v) is refused", s)
	}
	return r
}

// all is rectangles that may be.
func all(t *testing.T, l []sides) []plane.Rect {
	t.Helper()
	var out []plane.Rect
	for _, s := range l {
		out = append(out, of(t, s))
	}
	return out
}

// tell is what Sides tells of a rectangle.
func tell(r plane.Rect) sides {
	from, to, s := r.Sides()
	return sides{from, to, s}
}

// tellAll is what Sides tells of each of l.
func tellAll(l []plane.Rect) []sides {
	var out []sides
	for _, r := range l {
		out = append(out, tell(r))
	}
	return out
}

// may is whether a rectangle may be.
func may(s sides) bool {
	return 0 <= s.from && s.from < s.to && s.to <= most && 0 <= s.span.From && s.span.From < s.span.To && s.span.To <= most
}

// lies tells whether a point is one of s, of which one that may not be has none.
func lies(s sides, epoch, t int) bool {
	return may(s) && s.from <= epoch && epoch < s.to && s.span.From <= t && t < s.span.To
}

// edges is the numbers at which something is another thing, and those beside them.
func edges() []int {
	return []int{math.MinInt, math.MinInt + 1, -most, -1, 0, 1, 3, 1 << 31, most - 1, most, most + 1, 1 << 62, math.MaxInt - 1, math.MaxInt}
}

// boxes is all sides from numbers of l, also those that may not be.
func boxes(l []int) []sides {
	var out []sides
	for _, from := range l {
		for _, to := range l {
			for _, begin := range l {
				for _, end := range l {
					out = append(out, box(from, to, begin, end))
				}
			}
		}
	}
	return out
}

// small is all sides of epochs and times up to units that may be, and, as the last one, that of the zero rectangle.
func small() []sides {
	var out []sides
	for _, s := range boxes([]int{0, 1, 2, units}) {
		if may(s) {
			out = append(out, s)
		}
	}
	return append(out, sides{})
}

// rects is rectangles of sides that may be, and of the zero one.
func rects(t *testing.T, l []sides) []plane.Rect {
	t.Helper()
	var out []plane.Rect
	for _, s := range l {
		if s == (sides{}) {
			out = append(out, plane.Rect{})
		} else {
			out = append(out, of(t, s))
		}
	}
	return out
}

// eachPoint calls f with each point up to units, and those around.
func eachPoint(f func(epoch, t int)) {
	for epoch := -1; epoch <= units; epoch++ {
		for t := -1; t <= units; t++ {
			f(epoch, t)
		}
	}
}

// P5.1: Of and Sides.
func TestOf(t *testing.T) {
	for _, c := range []struct {
		s    sides
		want bool
	}{
		{box(3, 5, 7, 9), true},
		{box(0, 1, 0, 1), true},
		{box(0, most, 0, most), true},
		{box(most-1, most, most-1, most), true},
		{box(10001, 10002, 0, 1), true},
		{box(0, 0, 0, 1), false},
		{box(5, 5, 7, 9), false},
		{box(5, 4, 7, 9), false},
		{box(-1, 5, 7, 9), false},
		{box(-2, -1, 7, 9), false},
		{box(3, most+1, 7, 9), false},
		{box(most, most+1, 7, 9), false},
		{box(3, 5, 7, 7), false},
		{box(3, 5, 9, 7), false},
		{box(3, 5, -1, 9), false},
		{box(3, 5, 7, most+1), false},
		{box(3, 5, 0, 0), false},
		{box(0, 0, 0, 0), false},
		{box(math.MinInt, math.MaxInt, 7, 9), false},
		{box(3, 5, math.MinInt, math.MaxInt), false},
		{box(math.MaxInt, math.MinInt, math.MaxInt, math.MinInt), false},
	} {
		if r, ok := plane.Of(c.s.from, c.s.to, c.s.span); ok != c.want || ok && tell(r) != c.s || !ok && r != (plane.Rect{}) {
			t.Errorf("Of(%v) = %v %v", c.s, tell(r), ok)
		}
	}
	for _, s := range boxes(edges()) {
		r, ok := plane.Of(s.from, s.to, s.span)
		if ok != may(s) || ok && tell(r) != s || !ok && r != (plane.Rect{}) {
			t.Errorf("Of(%v) = %v %v", s, tell(r), ok)
		}
	}
}

// P5.1: of the zero rectangle all is zero.
func TestZero(t *testing.T) {
	var zero plane.Rect
	if got := tell(zero); got != (sides{}) {
		t.Errorf("Sides = %v", got)
	}
	if got := tell(zero.Turn()); got != (sides{}) {
		t.Errorf("Turn = %v", got)
	}
	if got := zero.Area(); got != 0 {
		t.Errorf("Area = %d", got)
	}
	for _, epoch := range edges() {
		for _, n := range edges() {
			if zero.Has(epoch, n) {
				t.Errorf("Has(%d, %d)", epoch, n)
			}
		}
	}
}

// P5.1: Has, at the edges and far away.
func TestHas(t *testing.T) {
	r := of(t, box(3, 5, 7, 9))
	for _, c := range []struct {
		epoch, t int
		want     bool
	}{
		{3, 7, true}, {4, 8, true}, {3, 8, true}, {4, 7, true},
		{2, 7, false}, {5, 7, false}, {3, 6, false}, {3, 9, false},
		{7, 3, false}, {8, 4, false}, {2, 6, false}, {5, 9, false},
		{-3, 7, false}, {3, -7, false},
	} {
		if got := r.Has(c.epoch, c.t); got != c.want {
			t.Errorf("Has(%d, %d) = %v", c.epoch, c.t, got)
		}
	}
	for _, s := range boxes([]int{0, 1, most - 1, most}) {
		if !may(s) {
			continue
		}
		r := of(t, s)
		for _, epoch := range edges() {
			for _, n := range edges() {
				if got := r.Has(epoch, n); got != lies(s, epoch, n) {
					t.Errorf("%v: Has(%d, %d) = %v", s, epoch, n, got)
				}
			}
		}
	}
}

// P5.1: Turn.
func TestTurn(t *testing.T) {
	for _, s := range append(boxes(edges()), boxes([]int{0, 1, 2, 3})...) {
		if !may(s) {
			continue
		}
		r := of(t, s)
		want := box(s.span.From, s.span.To, s.from, s.to)
		if got := tell(r.Turn()); got != want {
			t.Errorf("%v: Turn = %v", s, got)
		}
		if r.Turn() != of(t, want) || r.Turn().Turn() != r {
			t.Errorf("%v: Turn is not the rectangle that Of makes", s)
		}
		if tell(r) != s {
			t.Errorf("Turn has changed %v to %v", s, tell(r))
		}
	}
}

// P5.1: Area.
func TestArea(t *testing.T) {
	for _, c := range []struct {
		s    sides
		want int
	}{
		{box(0, 1, 0, 1), 1},
		{box(3, 5, 7, 10), 6},
		{box(0, most, 7, 8), most},
		{box(7, 8, 0, most), most},
		{box(0, 1<<31, 0, 1<<31), 1 << 62},
		{box(0, 1<<31, 0, 1<<31-1), 1<<62 - 1<<31},
		{box(0, 1<<31, 0, 1<<31+1), 1 << 62},
		{box(0, 1<<31+1, 0, 1<<31-1), 1<<62 - 1},
		{box(0, 1<<22, 0, most), 1 << 62},
		{box(0, 1<<22-1, 0, most), 1<<62 - 1<<40},
		{box(0, 1<<22+1, 0, most), 1 << 62},
		{box(0, 1<<24, 0, most), 1 << 62},
		{box(0, most, 0, most), 1 << 62},
		{box(0, most-1, 0, most-1), 1 << 62},
		{box(0, most-1, 0, 1<<22), 1<<62 - 1<<22},
		{box(0, 3037000499, 0, 1518500249), 3037000499 * 1518500249},
		{box(1, 3037000500, 1, 1518500250), 3037000499 * 1518500249},
	} {
		if got := of(t, c.s).Area(); got != c.want {
			t.Errorf("%v: Area = %d, not %d", c.s, got, c.want)
		}
	}
}

// P5.1: Area of any, held against numbers without an end.
func TestAreaOfAny(t *testing.T) {
	limit := big.NewInt(1 << 62)
	random := rand.New(rand.NewSource(5))
	for range 20000 {
		wide, high := 1+random.Intn(1<<random.Intn(41)), 1+random.Intn(1<<random.Intn(41))
		from, begin := random.Intn(most-wide+1), random.Intn(most-high+1)
		want := new(big.Int).Mul(big.NewInt(int64(wide)), big.NewInt(int64(high)))
		if want.Cmp(limit) > 0 {
			want = limit
		}
		s := box(from, from+wide, begin, begin+high)
		if got := of(t, s).Area(); int64(got) != want.Int64() {
			t.Fatalf("%v: Area = %d, not %v", s, got, want)
		}
	}
}

// P5.2: Meet.
func TestMeet(t *testing.T) {
	for _, c := range []struct {
		a, b, want sides
	}{
		{box(0, 9, 0, 9), box(3, 5, 4, 6), box(3, 5, 4, 6)},
		{box(0, 5, 2, 9), box(3, 9, 0, 6), box(3, 5, 2, 6)},
		{box(3, 5, 7, 9), box(3, 5, 7, 9), box(3, 5, 7, 9)},
		{box(0, most, 0, most), box(most-1, most, 0, 1), box(most-1, most, 0, 1)},
		{box(0, most, 5, 6), box(5, 6, 0, most), box(5, 6, 5, 6)},
		{box(0, 5, 0, 5), box(4, 9, 4, 9), box(4, 5, 4, 5)},
		{box(0, 5, 0, 5), box(5, 9, 0, 5), sides{}},
		{box(0, 5, 0, 5), box(0, 5, 5, 9), sides{}},
		{box(0, 5, 0, 5), box(5, 9, 5, 9), sides{}},
		{box(0, 5, 0, 5), box(7, 9, 0, 5), sides{}},
		{box(0, 5, 0, 5), box(0, 5, 7, 9), sides{}},
		{box(0, 2, 7, 9), box(7, 9, 0, 2), sides{}},
	} {
		a, b := of(t, c.a), of(t, c.b)
		for _, pair := range [][2]plane.Rect{{a, b}, {b, a}} {
			got, ok := plane.Meet(pair[0], pair[1])
			if tell(got) != c.want || ok != may(c.want) || !ok && got != (plane.Rect{}) {
				t.Errorf("Meet(%v, %v) = %v %v", tell(pair[0]), tell(pair[1]), tell(got), ok)
			}
		}
	}
}

// P5.2: Minus, its rectangles and their order.
func TestMinus(t *testing.T) {
	for _, c := range []struct {
		a, b sides
		want []sides
	}{
		{box(0, 4, 0, 4), box(1, 2, 1, 2), []sides{box(0, 1, 0, 4), box(2, 4, 0, 4), box(1, 2, 0, 1), box(1, 2, 2, 4)}},
		{box(0, 4, 0, 4), box(0, 4, 0, 4), nil},
		{box(1, 3, 1, 3), box(0, 4, 0, 4), nil},
		{box(0, 4, 0, 4), box(0, 4, 1, 2), []sides{box(0, 4, 0, 1), box(0, 4, 2, 4)}},
		{box(0, 4, 0, 4), box(1, 2, 0, 4), []sides{box(0, 1, 0, 4), box(2, 4, 0, 4)}},
		{box(0, 4, 0, 4), box(2, 9, 2, 9), []sides{box(0, 2, 0, 4), box(2, 4, 0, 2)}},
		{box(2, 9, 2, 9), box(0, 4, 0, 4), []sides{box(4, 9, 2, 9), box(2, 4, 4, 9)}},
		{box(0, 4, 2, 9), box(2, 9, 0, 4), []sides{box(0, 2, 2, 9), box(2, 4, 4, 9)}},
		{box(0, 1, 0, 1), box(1, 2, 0, 1), []sides{box(0, 1, 0, 1)}},
		{box(1, 2, 0, 1), box(0, 1, 0, 1), []sides{box(1, 2, 0, 1)}},
		{box(0, 4, 0, 4), box(0, 4, 4, 9), []sides{box(0, 4, 0, 4)}},
		{box(0, 4, 4, 9), box(0, 9, 0, 4), []sides{box(0, 4, 4, 9)}},
		{box(0, most, 0, most), box(1, most-1, 1, most-1), []sides{box(0, 1, 0, most), box(most-1, most, 0, most), box(1, most-1, 0, 1), box(1, most-1, most-1, most)}},
		{box(0, 4, 0, 4), box(1, 2, 6, 9), []sides{box(0, 1, 0, 4), box(2, 4, 0, 4), box(1, 2, 0, 4)}},
		{box(0, 4, 6, 9), box(1, 2, 0, 4), []sides{box(0, 1, 6, 9), box(2, 4, 6, 9), box(1, 2, 6, 9)}},
	} {
		if got := tellAll(plane.Minus(of(t, c.a), of(t, c.b))); !slices.Equal(got, c.want) {
			t.Errorf("Minus(%v, %v) = %v, not %v", c.a, c.b, got, c.want)
		}
	}
}

// P5.2: Meet and Minus with the zero rectangle, which has no points.
func TestZeroMeetAndMinus(t *testing.T) {
	var zero plane.Rect
	for _, s := range []sides{box(0, 4, 0, 4), box(2, 3, 5, 9), box(0, most, 0, most), box(most-1, most, 0, 1)} {
		r := of(t, s)
		for _, pair := range [][2]plane.Rect{{r, zero}, {zero, r}, {zero, zero}} {
			if got, ok := plane.Meet(pair[0], pair[1]); ok || got != zero {
				t.Errorf("Meet(%v, %v) = %v %v", tell(pair[0]), tell(pair[1]), tell(got), ok)
			}
		}
		if got := plane.Minus(r, zero); !slices.Equal(got, []plane.Rect{r}) {
			t.Errorf("Minus(%v, zero) = %v", s, tellAll(got))
		}
		if got := plane.Minus(zero, r); len(got) != 0 {
			t.Errorf("Minus(zero, %v) = %v", s, tellAll(got))
		}
	}
	if got := plane.Minus(zero, zero); len(got) != 0 {
		t.Errorf("Minus(zero, zero) = %v", tellAll(got))
	}
}

// holders is how many of l have a point; it fails of what tells another thing than its sides.
func holders(t *testing.T, l []plane.Rect, epoch, n int) int {
	t.Helper()
	out := 0
	for _, r := range l {
		if r.Has(epoch, n) != lies(tell(r), epoch, n) {
			t.Fatalf("%v: Has(%d, %d) = %v", tell(r), epoch, n, r.Has(epoch, n))
		}
		if r.Has(epoch, n) {
			out++
		}
	}
	return out
}

// order is Minus as its promise tells it: of each part its epochs and times, those left out that may not be.
func order(a, b sides) []sides {
	if !may(b) {
		b = box(a.to, a.to, 0, 0)
	}
	from, to := max(a.from, b.from), min(a.to, b.to)
	var out []sides
	for _, s := range []sides{
		{a.from, min(a.to, b.from), a.span},
		{max(a.from, b.to), a.to, a.span},
		{from, to, sp(a.span.From, min(a.span.To, b.span.From))},
		{from, to, sp(max(a.span.From, b.span.To), a.span.To)},
	} {
		if may(a) && may(s) {
			out = append(out, s)
		}
	}
	return out
}

// P5.1 and P5.2: Has, Area, Meet and Minus of any two, point by point.
func TestAnyTwo(t *testing.T) {
	l := small()
	made := rects(t, l)
	for i, a := range made {
		count := 0
		eachPoint(func(epoch, n int) { count += holders(t, []plane.Rect{a}, epoch, n) })
		if a.Area() != count {
			t.Fatalf("%v: Area = %d, not %d", l[i], a.Area(), count)
		}
		for j, b := range made {
			m, ok := plane.Meet(a, b)
			if ok != may(tell(m)) || !ok && m != (plane.Rect{}) {
				t.Fatalf("Meet(%v, %v) = %v %v", l[i], l[j], tell(m), ok)
			}
			left := plane.Minus(a, b)
			if got := tellAll(left); !slices.Equal(got, order(l[i], l[j])) {
				t.Fatalf("Minus(%v, %v) = %v", l[i], l[j], got)
			}
			eachPoint(func(epoch, n int) {
				inA, inB := lies(l[i], epoch, n), lies(l[j], epoch, n)
				if m.Has(epoch, n) != (inA && inB) {
					t.Fatalf("Meet(%v, %v) = %v: wrong at %d, %d", l[i], l[j], tell(m), epoch, n)
				}
				if h := holders(t, left, epoch, n); h > 1 || h == 1 != (inA && !inB) {
					t.Fatalf("Minus(%v, %v) = %v: wrong at %d, %d", l[i], l[j], tellAll(left), epoch, n)
				}
			})
		}
	}
}

// P5.3: Cover, and the order of what it leaves.
func TestCover(t *testing.T) {
	for _, c := range []struct {
		r    sides
		l    []sides
		want []sides
	}{
		{box(0, 4, 0, 4), nil, []sides{box(0, 4, 0, 4)}},
		{box(0, 4, 0, 4), []sides{}, []sides{box(0, 4, 0, 4)}},
		{box(0, 4, 0, 4), []sides{box(1, 2, 1, 2)}, []sides{box(0, 1, 0, 4), box(2, 4, 0, 4), box(1, 2, 0, 1), box(1, 2, 2, 4)}},
		{box(0, 4, 0, 4), []sides{box(0, 4, 0, 4)}, nil},
		{box(0, 4, 0, 4), []sides{box(0, 2, 0, 4), box(2, 4, 0, 4)}, nil},
		{box(0, 4, 0, 4), []sides{box(0, 2, 0, 4), box(2, 4, 0, 4), box(0, 9, 0, 9)}, nil},
		{box(0, 4, 0, 4), []sides{box(5, 6, 0, 4)}, []sides{box(0, 4, 0, 4)}},
		{box(0, 9, 0, 9), []sides{box(0, 3, 0, 3), box(3, 6, 3, 6)}, []sides{
			box(6, 9, 0, 9), box(3, 6, 0, 3), box(3, 6, 6, 9), box(0, 3, 3, 9),
		}},
		{box(0, 9, 0, 9), []sides{box(3, 6, 3, 6), box(0, 3, 0, 3)}, []sides{
			box(0, 3, 3, 9), box(6, 9, 0, 9), box(3, 6, 0, 3), box(3, 6, 6, 9),
		}},
		{box(0, 4, 0, 4), []sides{box(1, 2, 1, 2), box(0, 4, 3, 4)}, []sides{
			box(0, 1, 0, 3), box(2, 4, 0, 3), box(1, 2, 0, 1), box(1, 2, 2, 3),
		}},
	} {
		if got := tellAll(plane.Cover(of(t, c.r), all(t, c.l))); !slices.Equal(got, c.want) {
			t.Errorf("Cover(%v, %v) = %v, not %v", c.r, c.l, got, c.want)
		}
	}
}

// P5.3: Cover with the zero rectangle, of which nothing is left, also when nothing is taken away.
func TestZeroCover(t *testing.T) {
	var zero plane.Rect
	r, b := of(t, box(0, 4, 0, 4)), of(t, box(1, 2, 0, 4))
	if got := plane.Cover(r, []plane.Rect{zero, b, zero}); !slices.Equal(tellAll(got), []sides{box(0, 1, 0, 4), box(2, 4, 0, 4)}) {
		t.Errorf("Cover = %v", tellAll(got))
	}
	for _, l := range [][]plane.Rect{nil, {zero}, {zero, zero}} {
		if got := plane.Cover(r, l); !slices.Equal(got, []plane.Rect{r}) {
			t.Errorf("Cover of a whole one, less %v, = %v", tellAll(l), tellAll(got))
		}
	}
	refused, _ := plane.Of(4, 4, sp(0, 4))
	for _, none := range []plane.Rect{zero, zero.Turn(), refused} {
		for _, l := range [][]plane.Rect{nil, {}, {zero}, {b}, {zero, b}, {b, zero}, {b, r}} {
			if got := plane.Cover(none, l); len(got) != 0 {
				t.Errorf("Cover of zero, less %v, = %v", tellAll(l), tellAll(got))
			}
		}
	}
}

// checkCover holds Cover of r, and l, against Minus one by one, and against their points.
func checkCover(t *testing.T, r plane.Rect, l []plane.Rect) {
	t.Helper()
	left := plane.Cover(r, l)
	var want []sides
	if may(tell(r)) {
		want = append(want, tell(r))
	}
	for _, b := range l {
		var next []sides
		for _, a := range want {
			next = append(next, order(a, tell(b))...)
		}
		want = next
	}
	if got := tellAll(left); !slices.Equal(got, want) {
		t.Fatalf("Cover(%v, %v) = %v, not %v", tell(r), tellAll(l), got, want)
	}
	eachPoint(func(epoch, n int) {
		in := lies(tell(r), epoch, n)
		for _, b := range l {
			in = in && !lies(tell(b), epoch, n)
		}
		if h := holders(t, left, epoch, n); h > 1 || h == 1 != in {
			t.Fatalf("Cover(%v, %v) = %v: wrong at %d, %d", tell(r), tellAll(l), tellAll(left), epoch, n)
		}
	})
}

// P5.3 and P5.4: what is left of all small ones, less any two, and less many.
func TestCoverOfAll(t *testing.T) {
	made := rects(t, small())
	for _, a := range made {
		checkCover(t, a, nil)
		for _, b := range made {
			checkCover(t, a, []plane.Rect{b})
		}
	}
	whole := of(t, box(0, units, 0, units))
	for _, a := range made {
		for _, b := range made {
			checkCover(t, whole, []plane.Rect{a, b})
		}
	}
	random := rand.New(rand.NewSource(6))
	for range 20000 {
		var l []plane.Rect
		for range random.Intn(6) {
			l = append(l, made[random.Intn(len(made))])
		}
		checkCover(t, made[random.Intn(len(made))], l)
	}
}

// P5.4: what is left, and what was taken away, are as many points as there were.
func TestAreasOfCover(t *testing.T) {
	r := of(t, box(5, 1<<20, 7, 1<<30))
	a, b := of(t, box(100, 2000, 0, 1<<25)), of(t, box(1500, 1<<21, 1<<24, 1<<26))
	sum := 0
	for _, x := range plane.Cover(r, []plane.Rect{a, b}) {
		sum += x.Area()
	}
	inA, _ := plane.Meet(r, a)
	inB, _ := plane.Meet(r, b)
	inBoth, _ := plane.Meet(inA, inB)
	if want := r.Area() - inA.Area() - inB.Area() + inBoth.Area(); sum != want {
		t.Errorf("%d points are left, not %d", sum, want)
	}
}

// R4: what is handed in stays, its spare room too, and what is answered is new memory.
func TestKeepsOff(t *testing.T) {
	r, b, c := of(t, box(0, 4, 0, 4)), of(t, box(1, 2, 1, 2)), of(t, box(3, 9, 3, 9))
	room := []plane.Rect{b, c, r, r, r, r}
	kept := slices.Clone(room)
	first := plane.Cover(r, room[:2])
	told := slices.Clone(first)
	if !slices.Equal(room, kept) {
		t.Error("Cover has changed what was handed in")
	}
	second := plane.Cover(r, room[:2])
	clear(first[:cap(first)])
	if !slices.Equal(second, told) || !slices.Equal(room, kept) || !slices.Equal(plane.Cover(r, room[:2]), told) {
		t.Error("an answer of Cover shares its memory")
	}
	if again := plane.Cover(first[0], second); len(again) != 0 || !slices.Equal(second, told) {
		t.Error("Cover has changed what was handed in")
	}
	one, two := plane.Minus(r, b), plane.Minus(r, b)
	clear(one[:cap(one)])
	if !slices.Equal(tellAll(two), order(box(0, 4, 0, 4), box(1, 2, 1, 2))) {
		t.Error("an answer of Minus shares its memory")
	}
}
