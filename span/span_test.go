package span_test

import (
	"math"
	"math/rand"
	"slices"
	"strings"
	"testing"

	"duramen/api"
	"duramen/span"
)

const (
	most  = 1 << 40
	units = 6 // so many times have the lists that are made one and all
)

func sp(from, to int) api.Span {
	return api.Span{From: from, To: to}
}

func piece(from, to int, value string) api.Piece {
	return api.Piece{Span: sp(from, to), Value: value}
}

// edges is the times at which something is another thing, and those beside them.
func edges() []int {
	return []int{math.MinInt, math.MinInt + 1, -most, -1, 0, 1, 2, 3, 5, most / 2, most - 1, most, most + 1, math.MaxInt - 1, math.MaxInt}
}

// spans is all spans from one of l to one of l, also those that may not be.
func spans(l []int) []api.Span {
	var out []api.Span
	for _, from := range l {
		for _, to := range l {
			out = append(out, sp(from, to))
		}
	}
	return out
}

// small is all numbers from -2 to a little above units.
func small() []int {
	var l []int
	for n := -2; n < units+3; n++ {
		l = append(l, n)
	}
	return l
}

// may is May, said by times: whether s has one, and all that it has may be.
func may(s api.Span) bool {
	return s.From >= 0 && s.To <= most && s.From < s.To
}

// lies tells whether t is a time of s, of which one that may not be has none.
func lies(s api.Span, t int) bool {
	return may(s) && t >= s.From && t < s.To
}

// P4.1: May.
func TestMay(t *testing.T) {
	for _, c := range []struct {
		s    api.Span
		want bool
	}{
		{sp(0, 1), true},
		{sp(0, most), true},
		{sp(most-1, most), true},
		{sp(3, 5), true},
		{sp(0, 0), false},
		{sp(5, 5), false},
		{sp(5, 4), false},
		{sp(most, most), false},
		{sp(-1, 1), false},
		{sp(-1, 0), false},
		{sp(-3, -1), false},
		{sp(0, most+1), false},
		{sp(most-1, most+1), false},
		{sp(most, most+1), false},
		{sp(most, 0), false},
		{sp(math.MinInt, math.MaxInt), false},
		{sp(math.MaxInt, math.MinInt), false},
		{sp(0, math.MaxInt), false},
		{sp(math.MinInt, 1), false},
	} {
		if got := span.May(c.s); got != c.want {
			t.Errorf("May(%v) = %v", c.s, got)
		}
	}
	for _, s := range append(spans(edges()), spans(small())...) {
		if got := span.May(s); got != may(s) {
			t.Errorf("May(%v) = %v", s, got)
		}
	}
}

// P4.1: Has.
func TestHas(t *testing.T) {
	for _, c := range []struct {
		s    api.Span
		t    int
		want bool
	}{
		{sp(3, 5), 2, false},
		{sp(3, 5), 3, true},
		{sp(3, 5), 4, true},
		{sp(3, 5), 5, false},
		{sp(0, most), 0, true},
		{sp(0, most), -1, false},
		{sp(0, most), most - 1, true},
		{sp(0, most), most, false},
		{sp(-1, 5), -1, false},
		{sp(-1, 5), 0, false},
		{sp(0, most+1), 0, false},
		{sp(0, most+1), most, false},
		{sp(3, 3), 3, false},
		{sp(5, 3), 4, false},
	} {
		if got := span.Has(c.s, c.t); got != c.want {
			t.Errorf("Has(%v, %d) = %v", c.s, c.t, got)
		}
	}
	for _, l := range [][]int{edges(), small()} {
		for _, s := range spans(l) {
			for _, n := range l {
				if got := span.Has(s, n); got != lies(s, n) {
					t.Errorf("Has(%v, %d) = %v", s, n, got)
				}
			}
		}
	}
}

// P4.1: Meet.
func TestMeet(t *testing.T) {
	for _, c := range []struct {
		a, b, want api.Span
		ok         bool
	}{
		{sp(0, 9), sp(3, 5), sp(3, 5), true},
		{sp(3, 5), sp(0, 9), sp(3, 5), true},
		{sp(0, 5), sp(3, 9), sp(3, 5), true},
		{sp(3, 9), sp(0, 5), sp(3, 5), true},
		{sp(3, 5), sp(3, 5), sp(3, 5), true},
		{sp(0, most), sp(most-1, most), sp(most-1, most), true},
		{sp(0, 4), sp(3, 9), sp(3, 4), true},
		{sp(0, 3), sp(3, 9), sp(0, 0), false},
		{sp(3, 9), sp(0, 3), sp(0, 0), false},
		{sp(0, 2), sp(3, 9), sp(0, 0), false},
		{sp(-1, 5), sp(0, 9), sp(0, 0), false},
		{sp(0, 9), sp(-1, 5), sp(0, 0), false},
		{sp(0, most+1), sp(0, 9), sp(0, 0), false},
		{sp(0, 9), sp(5, most+1), sp(0, 0), false},
		{sp(-1, 9), sp(3, most+1), sp(0, 0), false},
		{sp(0, 9), sp(5, 3), sp(0, 0), false},
		{sp(0, 9), sp(4, 4), sp(0, 0), false},
	} {
		if got, ok := span.Meet(c.a, c.b); got != c.want || ok != c.ok {
			t.Errorf("Meet(%v, %v) = %v %v", c.a, c.b, got, ok)
		}
	}
}

// P4.1: Minus.
func TestMinus(t *testing.T) {
	for _, c := range []struct {
		a, b api.Span
		want []api.Span
	}{
		{sp(0, 9), sp(3, 5), []api.Span{sp(0, 3), sp(5, 9)}},
		{sp(0, 9), sp(0, 5), []api.Span{sp(5, 9)}},
		{sp(1, 9), sp(0, 5), []api.Span{sp(5, 9)}},
		{sp(0, 9), sp(5, 9), []api.Span{sp(0, 5)}},
		{sp(0, 8), sp(5, 9), []api.Span{sp(0, 5)}},
		{sp(3, 5), sp(0, 9), nil},
		{sp(3, 5), sp(3, 5), nil},
		{sp(3, 5), sp(5, 9), []api.Span{sp(3, 5)}},
		{sp(3, 5), sp(0, 3), []api.Span{sp(3, 5)}},
		{sp(3, 5), sp(7, 9), []api.Span{sp(3, 5)}},
		{sp(7, 9), sp(3, 5), []api.Span{sp(7, 9)}},
		{sp(0, most), sp(1, most-1), []api.Span{sp(0, 1), sp(most-1, most)}},
		{sp(0, most), sp(0, most), nil},
		{sp(0, 9), sp(-1, 5), []api.Span{sp(0, 9)}},
		{sp(0, 9), sp(5, most+1), []api.Span{sp(0, 9)}},
		{sp(0, 9), sp(5, 3), []api.Span{sp(0, 9)}},
		{sp(0, 9), sp(4, 4), []api.Span{sp(0, 9)}},
		{sp(-1, 9), sp(3, 5), nil},
		{sp(0, most+1), sp(3, 5), nil},
		{sp(9, 0), sp(3, 5), nil},
		{sp(4, 4), sp(3, 5), nil},
		{sp(4, 4), sp(5, 3), nil},
		{sp(-1, 9), sp(-1, 5), nil},
	} {
		if got := span.Minus(c.a, c.b); !slices.Equal(got, c.want) {
			t.Errorf("Minus(%v, %v) = %v", c.a, c.b, got)
		}
	}
}

// checkMeet holds Meet of a and b against the times that lie in both, of those in times.
func checkMeet(t *testing.T, a, b api.Span, times []int) {
	t.Helper()
	m, ok := span.Meet(a, b)
	some := false
	for _, n := range times {
		both := lies(a, n) && lies(b, n)
		some = some || both
		if lies(m, n) != both {
			t.Fatalf("Meet(%v, %v) = %v: wrong at %d", a, b, m, n)
		}
	}
	if ok != some || ok != may(m) || !ok && m != sp(0, 0) {
		t.Fatalf("Meet(%v, %v) = %v %v", a, b, m, ok)
	}
}

// checkMinus holds Minus of a and b against the times of a that are not of b, of those in times.
func checkMinus(t *testing.T, a, b api.Span, times []int) {
	t.Helper()
	l := span.Minus(a, b)
	for _, n := range times {
		has := slices.ContainsFunc(l, func(s api.Span) bool { return lies(s, n) })
		if has != (lies(a, n) && !lies(b, n)) {
			t.Fatalf("Minus(%v, %v) = %v: wrong at %d", a, b, l, n)
		}
	}
	for i, s := range l {
		if !may(s) || i > 0 && l[i-1].To >= s.From {
			t.Fatalf("Minus(%v, %v) = %v", a, b, l)
		}
	}
}

// P4.1: Meet and Minus of any two, time by time.
func TestMeetAndMinusOfAll(t *testing.T) {
	for _, l := range [][]int{edges(), small()} {
		for _, a := range spans(l) {
			for _, b := range spans(l) {
				checkMeet(t, a, b, l)
				checkMinus(t, a, b, l)
			}
		}
	}
}

// lists is all lists of pieces in order that have times below units, of two values.
func lists() [][]api.Piece {
	out := [][]api.Piece{nil}
	var add func(l []api.Piece)
	add = func(l []api.Piece) {
		begin := 0
		if len(l) > 0 {
			begin = l[len(l)-1].Span.To
		}
		for from := begin; from < units; from++ {
			for to := from + 1; to <= units; to++ {
				for _, value := range []string{"a", ""} {
					longer := append(slices.Clone(l), piece(from, to, value))
					out = append(out, longer)
					add(longer)
				}
			}
		}
	}
	add(nil)
	return out
}

// drawn is each time's own piece, by its number; -1, where there is none.
func drawn(l []api.Piece) []int {
	out := slices.Repeat([]int{-1}, units+2)
	for i, p := range l {
		for n := p.Span.From; n < p.Span.To; n++ {
			out[n] = i
		}
	}
	return out
}

// read is the pieces that drawn numbers tell, each as long as it may be.
func read(numbers []int, l []api.Piece) []api.Piece {
	var out []api.Piece
	for n, i := range numbers {
		switch {
		case i < 0:
		case n > 0 && numbers[n-1] == i:
			out[len(out)-1].Span.To++
		default:
			out = append(out, piece(n, n+1, l[i].Value))
		}
	}
	return out
}

// P4.2: Over and Without, in their ordinary ways.
func TestOverAndWithout(t *testing.T) {
	l := []api.Piece{piece(0, 4, "a"), piece(4, 6, "b"), piece(8, 9, "a")}
	for _, c := range []struct {
		p             api.Piece
		over, without []api.Piece
	}{
		{piece(1, 2, "a"), []api.Piece{piece(0, 1, "a"), piece(1, 2, "a"), piece(2, 4, "a"), piece(4, 6, "b"), piece(8, 9, "a")}, []api.Piece{piece(0, 1, "a"), piece(2, 4, "a"), piece(4, 6, "b"), piece(8, 9, "a")}},
		{piece(0, 9, "c"), []api.Piece{piece(0, 9, "c")}, nil},
		{piece(3, 5, "c"), []api.Piece{piece(0, 3, "a"), piece(3, 5, "c"), piece(5, 6, "b"), piece(8, 9, "a")}, []api.Piece{piece(0, 3, "a"), piece(5, 6, "b"), piece(8, 9, "a")}},
		{piece(4, 6, "b"), l, []api.Piece{piece(0, 4, "a"), piece(8, 9, "a")}},
		{piece(6, 8, "b"), []api.Piece{piece(0, 4, "a"), piece(4, 6, "b"), piece(6, 8, "b"), piece(8, 9, "a")}, l},
		{piece(9, 12, "a"), []api.Piece{piece(0, 4, "a"), piece(4, 6, "b"), piece(8, 9, "a"), piece(9, 12, "a")}, l},
		{piece(5, most, ""), []api.Piece{piece(0, 4, "a"), piece(4, 5, "b"), piece(5, most, "")}, []api.Piece{piece(0, 4, "a"), piece(4, 5, "b")}},
		{piece(0, most+1, "c"), l, l},
		{piece(-1, 5, "c"), l, l},
		{piece(5, 5, "c"), l, l},
		{piece(5, 2, "c"), l, l},
		{piece(math.MinInt, math.MaxInt, "c"), l, l},
	} {
		if got := span.Over(l, c.p); !slices.Equal(got, c.over) {
			t.Errorf("Over(%v) = %v, not %v", c.p, got, c.over)
		}
		if got := span.Without(l, c.p.Span); !slices.Equal(got, c.without) {
			t.Errorf("Without(%v) = %v, not %v", c.p.Span, got, c.without)
		}
	}
}

// P4.2: Over, and Without, of no pieces.
func TestOverNothing(t *testing.T) {
	p := piece(3, 5, "a")
	for _, l := range [][]api.Piece{nil, {}} {
		if got := span.Over(l, p); !slices.Equal(got, []api.Piece{p}) {
			t.Errorf("Over = %v", got)
		}
		if got := span.Over(l, piece(5, 3, "a")); len(got) != 0 {
			t.Errorf("Over of what may not be = %v", got)
		}
		if got := span.Without(l, p.Span); len(got) != 0 {
			t.Errorf("Without = %v", got)
		}
		if got := span.Without(l, sp(5, 3)); len(got) != 0 {
			t.Errorf("Without what may not be = %v", got)
		}
	}
}

// P4.2: Over and Without of all small lists and spans, piece by piece.
func TestOverAndWithoutOfAll(t *testing.T) {
	for _, l := range lists() {
		for _, s := range spans(small()) {
			over, without := l, l
			if may(s) && s.To <= units+2 {
				all := append(slices.Clone(l), piece(s.From, s.To, "a"))
				numbers := drawn(l)
				for n := s.From; n < s.To; n++ {
					numbers[n] = -1
				}
				without = read(numbers, all)
				for n := s.From; n < s.To; n++ {
					numbers[n] = len(l)
				}
				over = read(numbers, all)
			}
			if got := span.Over(l, api.Piece{Span: s, Value: "a"}); !slices.Equal(got, over) {
				t.Fatalf("Over(%v, %v) = %v, not %v", l, s, got, over)
			}
			if got := span.Without(l, s); !slices.Equal(got, without) {
				t.Fatalf("Without(%v, %v) = %v, not %v", l, s, got, without)
			}
		}
	}
}

// P4.2: beside a span that may not be the answer is l, also where that is not in order.
func TestOverWhatMayNotBe(t *testing.T) {
	for _, l := range [][]api.Piece{
		{piece(5, 9, "a"), piece(0, 3, "b")},
		{piece(0, 9, "a"), piece(0, 9, "a"), piece(3, 5, "b")},
		{piece(-1, 5, "a"), piece(5, 5, ""), piece(0, most+1, "b"), piece(9, 3, "c")},
	} {
		for _, s := range append(spans(edges()), spans(small())...) {
			if may(s) {
				continue
			}
			if got := span.Over(l, api.Piece{Span: s, Value: "z"}); !slices.Equal(got, l) {
				t.Errorf("Over(%v, %v) = %v", l, s, got)
			}
			if got := span.Without(l, s); !slices.Equal(got, l) {
				t.Errorf("Without(%v, %v) = %v", l, s, got)
			}
		}
	}
}

// P4.3: Least, in its ordinary ways and at its edges.
func TestLeast(t *testing.T) {
	for _, c := range []struct{ l, want []api.Piece }{
		{nil, nil},
		{[]api.Piece{}, nil},
		{[]api.Piece{piece(3, 5, "")}, []api.Piece{piece(3, 5, "")}},
		{[]api.Piece{piece(0, 3, "a"), piece(3, 5, "a")}, []api.Piece{piece(0, 5, "a")}},
		{[]api.Piece{piece(0, 3, ""), piece(3, 5, "")}, []api.Piece{piece(0, 5, "")}},
		{[]api.Piece{piece(0, 3, "a"), piece(3, 5, "b")}, []api.Piece{piece(0, 3, "a"), piece(3, 5, "b")}},
		{[]api.Piece{piece(0, 3, "a"), piece(4, 5, "a")}, []api.Piece{piece(0, 3, "a"), piece(4, 5, "a")}},
		{[]api.Piece{piece(0, 3, "a"), piece(3, 5, "A")}, []api.Piece{piece(0, 3, "a"), piece(3, 5, "A")}},
		{[]api.Piece{piece(0, 3, "a"), piece(3, 5, "a\x00")}, []api.Piece{piece(0, 3, "a"), piece(3, 5, "a\x00")}},
		{[]api.Piece{piece(0, 1, "a"), piece(1, 2, "a"), piece(2, 3, "a"), piece(3, most, "a")}, []api.Piece{piece(0, most, "a")}},
		{[]api.Piece{piece(0, 1, "a"), piece(1, 2, "b"), piece(2, 3, "b"), piece(3, 4, "a"), piece(4, 5, "a"), piece(6, 7, "a")}, []api.Piece{piece(0, 1, "a"), piece(1, 3, "b"), piece(3, 5, "a"), piece(6, 7, "a")}},
		{[]api.Piece{piece(most-2, most-1, "a"), piece(most-1, most, "a")}, []api.Piece{piece(most-2, most, "a")}},
	} {
		if got := span.Least(c.l); !slices.Equal(got, c.want) {
			t.Errorf("Least(%v) = %v, not %v", c.l, got, c.want)
		}
	}
}

// P4.3: Least of all small lists tells the same, is least, and is its own least.
func TestLeastOfAll(t *testing.T) {
	for _, l := range lists() {
		got := span.Least(l)
		for n := range units + 1 {
			a, ok := at(l, n)
			b, has := at(got, n)
			if a != b || ok != has {
				t.Fatalf("Least(%v) = %v: another thing at %d", l, got, n)
			}
		}
		for i, p := range got {
			if !may(p.Span) {
				t.Fatalf("Least(%v) = %v: %v", l, got, p)
			}
			if i == 0 {
				continue
			}
			ahead := got[i-1]
			if ahead.Span.To > p.Span.From || ahead.Span.To == p.Span.From && ahead.Value == p.Value {
				t.Fatalf("Least(%v) = %v: neither in order, nor least, at %v", l, got, p)
			}
		}
		if again := span.Least(got); !slices.Equal(again, got) {
			t.Fatalf("Least(%v) = %v", got, again)
		}
	}
}

// at is At, said another way: of all pieces that have the time the first one.
func at(l []api.Piece, t int) (string, bool) {
	i := slices.IndexFunc(l, func(p api.Piece) bool { return lies(p.Span, t) })
	if i < 0 {
		return "", false
	}
	return l[i].Value, true
}

// P4.3: At, of pieces in order, of others, and of spans that may not be.
func TestAt(t *testing.T) {
	inOrder := []api.Piece{piece(1, 4, "a"), piece(4, 6, ""), piece(8, 9, "c"), piece(most-1, most, "d")}
	for _, c := range []struct {
		l    []api.Piece
		t    int
		want string
		ok   bool
	}{
		{inOrder, 0, "", false},
		{inOrder, 1, "a", true},
		{inOrder, 3, "a", true},
		{inOrder, 4, "", true},
		{inOrder, 5, "", true},
		{inOrder, 6, "", false},
		{inOrder, 7, "", false},
		{inOrder, 8, "c", true},
		{inOrder, 9, "", false},
		{inOrder, most - 2, "", false},
		{inOrder, most - 1, "d", true},
		{inOrder, most, "", false},
		{inOrder, -1, "", false},
		{inOrder, math.MinInt, "", false},
		{inOrder, math.MaxInt, "", false},
		{nil, 0, "", false},
		{[]api.Piece{}, 0, "", false},
		{[]api.Piece{piece(5, 9, "b"), piece(0, 6, "a")}, 5, "b", true},
		{[]api.Piece{piece(5, 9, "b"), piece(0, 6, "a")}, 4, "a", true},
		{[]api.Piece{piece(0, 9, "a"), piece(0, 9, "b")}, 5, "a", true},
		{[]api.Piece{piece(-1, 9, "a"), piece(0, 9, "b")}, 5, "b", true},
		{[]api.Piece{piece(-1, 9, "a")}, -1, "", false},
		{[]api.Piece{piece(0, most+1, "a")}, 5, "", false},
	} {
		if got, ok := span.At(c.l, c.t); got != c.want || ok != c.ok {
			t.Errorf("At(%v, %d) = %q %v", c.l, c.t, got, ok)
		}
	}
	for _, l := range lists() {
		for n := -1; n < units+1; n++ {
			want, ok := at(l, n)
			if got, has := span.At(l, n); got != want || has != ok {
				t.Fatalf("At(%v, %d) = %q %v", l, n, got, has)
			}
		}
	}
}

// deed is a value that is put over a span, or that the span is taken away.
type deed struct {
	piece api.Piece
	gone  bool
}

// told is what the last deed told of the time t.
func told(l []deed, t int) (string, bool) {
	for _, d := range slices.Backward(l) {
		if lies(d.piece.Span, t) {
			return d.piece.Value, !d.gone
		}
	}
	return "", false
}

func anyDeed(r *rand.Rand, ends []int) deed {
	from, to := ends[r.Intn(len(ends))], ends[r.Intn(len(ends))]
	if from > to && r.Intn(4) > 0 {
		from, to = to, from
	}
	if r.Intn(3) == 0 {
		return deed{piece(from, to, ""), true}
	}
	return deed{piece(from, to, strings.Repeat("v", r.Intn(4))), false}
}

// P4.4: what is told of each time is what was put over it last.
func TestLastPutIsTold(t *testing.T) {
	r := rand.New(rand.NewSource(1))
	for round := range 400 {
		ends := edges()
		if round%2 == 0 {
			ends = small()
		}
		var l []api.Piece
		var deeds []deed
		for range 1 + r.Intn(25) {
			d := anyDeed(r, ends)
			deeds = append(deeds, d)
			if d.gone {
				l = span.Without(l, d.piece.Span)
			} else {
				l = span.Over(l, d.piece)
			}
			if r.Intn(8) == 0 {
				l = span.Least(l)
			}
			checkTold(t, l, deeds, ends)
		}
	}
}

// checkTold holds l, and its least pieces, against what was done, at the times.
func checkTold(t *testing.T, l []api.Piece, deeds []deed, times []int) {
	t.Helper()
	for i, p := range l {
		if !may(p.Span) || i > 0 && l[i-1].Span.To > p.Span.From {
			t.Fatalf("%v is not in order, behind %v", l, deeds)
		}
	}
	least := span.Least(l)
	for _, n := range times {
		want, ok := told(deeds, n)
		if !ok {
			want = ""
		}
		if got, has := span.At(l, n); got != want || has != ok {
			t.Fatalf("%v tells %q %v of %d, behind %v", l, got, has, n, deeds)
		}
		if got, has := span.At(least, n); got != want || has != ok {
			t.Fatalf("the least, %v, tells %q %v of %d, behind %v", least, got, has, n, deeds)
		}
	}
}

// R1: of pieces that are in no order each call ends, without a panic.
func TestPiecesInNoOrder(t *testing.T) {
	r := rand.New(rand.NewSource(2))
	for round := range 20000 {
		ends := edges()
		if round%2 == 0 {
			ends = small()
		}
		var l []api.Piece
		for range r.Intn(6) {
			l = append(l, anyDeed(r, ends).piece)
		}
		d := anyDeed(r, ends)
		kept := slices.Clone(l)
		span.Over(l, d.piece)
		span.Without(l, d.piece.Span)
		span.Least(l)
		n := ends[r.Intn(len(ends))]
		want, ok := at(l, n)
		if got, has := span.At(l, n); got != want || has != ok {
			t.Fatalf("At(%v, %d) = %q %v", l, n, got, has)
		}
		if !slices.Equal(l, kept) {
			t.Fatalf("%v was changed to %v", kept, l)
		}
	}
}

// answers is each call's answer of the pieces l.
func answers(l []api.Piece) [][]api.Piece {
	return [][]api.Piece{
		span.Over(l, piece(1, 2, "z")),
		span.Over(l, piece(4, 6, "z")),
		span.Over(l, piece(0, 9, "z")),
		span.Over(l, piece(6, 8, "z")),
		span.Over(l, piece(9, 12, "z")),
		span.Over(l, piece(5, 3, "z")),
		span.Without(l, sp(1, 2)),
		span.Without(l, sp(4, 6)),
		span.Without(l, sp(0, 9)),
		span.Without(l, sp(6, 8)),
		span.Without(l, sp(5, 3)),
		span.Least(l),
	}
}

// R4: neither the pieces that are handed in nor their spare room are changed.
func TestNothingIsChanged(t *testing.T) {
	room := []api.Piece{piece(0, 4, "a"), piece(4, 6, "a"), piece(8, 9, "b"), piece(20, 30, "x"), piece(30, 40, "y"), piece(50, 60, "z")}
	kept := slices.Clone(room)
	answers(room[:3])
	span.At(room[:3], 5)
	if !slices.Equal(room, kept) {
		t.Errorf("what was handed in was changed: %v", room)
	}
}

// R4: what is answered is new memory: what is done to it, and behind it, alters nothing of what was handed in, nor of the other answers.
func TestAnswersAreNewMemory(t *testing.T) {
	room := []api.Piece{piece(0, 4, "a"), piece(4, 6, "b"), piece(8, 9, "b"), piece(20, 30, "x"), piece(30, 40, "y"), piece(50, 60, "z")}
	kept, want := slices.Clone(room), answers(room[:3])
	for i, l := range answers(room[:3]) {
		for k := range l[:cap(l)] {
			l[:cap(l)][k] = piece(7, 7, "?")
		}
		if !slices.Equal(room, kept) {
			t.Fatalf("answer %d shares memory with what was handed in: %v", i, room)
		}
	}
	for i, l := range answers(room[:3]) {
		if !slices.Equal(l, want[i]) {
			t.Errorf("answer %d was %v, is %v", i, want[i], l)
		}
	}
	l := slices.Clone(room[:3])
	got := answers(l)
	clear(l)
	for i := range got {
		if !slices.Equal(got[i], want[i]) {
			t.Errorf("answer %d hangs on what was handed in: %v", i, got[i])
		}
	}
}

// R4: the spans that Minus answers are new at each call.
func TestMinusIsNewMemory(t *testing.T) {
	a, b := span.Minus(sp(0, 9), sp(3, 5)), span.Minus(sp(0, 9), sp(3, 5))
	clear(a[:cap(a)])
	if !slices.Equal(b, []api.Span{sp(0, 3), sp(5, 9)}) {
		t.Errorf("Minus = %v", b)
	}
}

// P4.2, P4.3: many pieces.
func TestManyPieces(t *testing.T) {
	var l []api.Piece
	n := 100000
	for i := range n {
		l = append(l, piece(10*i, 10*i+10, string(rune('a'+i/2%2))))
	}
	if got := span.Least(l); len(got) != n/2 || got[0] != piece(0, 20, "a") || got[n/2-1] != piece(10*n-20, 10*n, "b") {
		t.Errorf("Least: %d pieces", len(got))
	}
	if got := span.Over(l, piece(5, 10*n-5, "z")); !slices.Equal(got, []api.Piece{piece(0, 5, "a"), piece(5, 10*n-5, "z"), piece(10*n-5, 10*n, "b")}) {
		t.Errorf("Over: %d pieces", len(got))
	}
	if got := span.Without(l, sp(10*n/2+1, 10*n/2+2)); len(got) != n+1 {
		t.Errorf("Without: %d pieces", len(got))
	}
	if got, ok := span.At(l, 10*n-1); got != "b" || !ok {
		t.Errorf("At = %q %v", got, ok)
	}
}
