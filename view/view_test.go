package view_test

import (
	"fmt"
	"maps"
	"math"
	"math/rand"
	"slices"
	"testing"

	"duramen/api"
	"duramen/row"
	"duramen/span"
	"duramen/tree"
	"duramen/view"
)

// put is a version of the key k: a value in a span, of a branch, an epoch, a number.
func put(branch, epoch, seq, from, to int, value string) api.Version {
	return api.Version{
		Key: "k", At: api.Stamp{Branch: branch, Epoch: epoch, Seq: seq}, Span: api.Span{From: from, To: to}, Value: value,
	}
}

// gone is a version of the key k that takes a span away.
func gone(branch, epoch, seq, from, to int) api.Version {
	v := put(branch, epoch, seq, from, to, "")
	v.Gone = true
	return v
}

// of is v of another key.
func of(key string, v api.Version) api.Version {
	v.Key = key
	return v
}

// legs is a path: a branch and up to which epoch, one after the other.
func legs(n ...int) []api.Leg {
	var path []api.Leg
	for i := 0; i < len(n); i += 2 {
		path = append(path, api.Leg{Branch: n[i], Epoch: n[i+1]})
	}
	return path
}

// piece is a value in a span.
func piece(from, to int, value string) api.Piece {
	return api.Piece{Span: api.Span{From: from, To: to}, Value: value}
}

// behind tells whether a stands behind b, of one leg, by the document's words.
func behind(a, b api.Version) bool {
	if a.At.Epoch != b.At.Epoch {
		return a.At.Epoch > b.At.Epoch
	}
	if a.At.Seq != b.At.Seq {
		return a.At.Seq > b.At.Seq
	}
	return a.Span.From > b.Span.From
}

// firstThatSees is the place of the first leg of path that has the stamp's branch and no lesser epoch, -1, if there is none.
func firstThatSees(path []api.Leg, s api.Stamp) int {
	return slices.IndexFunc(path, func(leg api.Leg) bool { return leg.Branch == s.Branch && leg.Epoch >= s.Epoch })
}

// order is Order by the document's words: leg by leg, from the last one on, each version laid ahead of those that stand behind it.
func order(l []api.Version, path []api.Leg) []api.Version {
	var all []api.Version
	for place := len(path) - 1; place >= 0; place-- {
		var those []api.Version
		for _, v := range l {
			if firstThatSees(path, v.At) != place {
				continue
			}
			at := len(those)
			for at > 0 && behind(those[at-1], v) {
				at--
			}
			those = slices.Insert(those, at, v)
		}
		all = append(all, those...)
	}
	return all
}

// lies tells whether t lies in s, which may be, by the document's words.
func lies(s api.Span, t int) bool {
	return s.From >= 0 && s.To <= 1<<40 && s.From <= t && t < s.To
}

// get is Get by the document's words.
func get(l []api.Version, path []api.Leg, t int) (string, bool) {
	value, ok := "", false
	for _, v := range order(l, path) {
		if lies(v.Span, t) {
			value, ok = v.Value, !v.Gone
		}
	}
	if !ok {
		return "", false
	}
	return value, true
}

// state is State by the document's words, when all spans end ahead of a time: what stands at each time, and where it turns to something else a new piece.
func state(l []api.Version, path []api.Leg, end int) []api.Piece {
	var pieces []api.Piece
	for t := range end {
		value, ok := get(l, path, t)
		last := len(pieces) - 1
		if ok && last >= 0 && pieces[last].Span.To == t && pieces[last].Value == value {
			pieces[last].Span.To++
		} else if ok {
			pieces = append(pieces, piece(t, t+1, value))
		}
	}
	return pieces
}

// scan is Scan by the document's words.
func scan(l []api.Version, path []api.Leg, t int) []api.Pair {
	keys := map[string]int{}
	for _, v := range l {
		keys[v.Key]++
	}
	var pairs []api.Pair
	for _, key := range slices.Sorted(maps.Keys(keys)) {
		those := slices.DeleteFunc(slices.Clone(l), func(v api.Version) bool { return v.Key != key })
		if value, ok := get(those, path, t); ok {
			pairs = append(pairs, api.Pair{Key: key, Value: value})
		}
	}
	return pairs
}

// check holds all that is told of l, whose spans that may be end ahead of a time, against the document's words.
func check(t *testing.T, l []api.Version, path []api.Leg, end int) {
	t.Helper()
	want := order(l, path)
	if got := view.Order(l, path); !slices.Equal(got, want) {
		t.Fatalf("Order of %v, %v: %v, not %v", l, path, got, want)
	}
	last := api.Stamp{}
	if len(want) > 0 {
		last = want[len(want)-1].At
	}
	if got := view.Last(l, path); got != last {
		t.Fatalf("Last of %v, %v: %v, not %v", l, path, got, last)
	}
	pieces := view.State(l, path)
	if want := state(l, path, end); !slices.Equal(pieces, want) {
		t.Fatalf("State of %v, %v: %v, not %v", l, path, pieces, want)
	}
	for at := -2; at < end+2; at++ {
		value, ok := view.Get(l, path, at)
		if wantValue, wantOK := get(l, path, at); value != wantValue || ok != wantOK {
			t.Fatalf("Get of %v, %v at %d: %q %v, not %q %v", l, path, at, value, ok, wantValue, wantOK)
		}
		if v, there := span.At(pieces, at); v != value || there != ok {
			t.Fatalf("State of %v, %v at %d: %q %v, but Get %q %v", l, path, at, v, there, value, ok)
		}
		if got, want := view.Scan(l, path, at), scan(l, path, at); !slices.Equal(got, want) {
			t.Fatalf("Scan of %v, %v at %d: %q, not %q", l, path, at, got, want)
		}
	}
}

// P14.2: the document's example.
func TestExample(t *testing.T) {
	l := []api.Version{put(0, 1, 1, 0, 9, "a"), gone(0, 2, 1, 3, 5)}
	want := []api.Piece{piece(0, 3, "a"), piece(5, 9, "a")}
	if got := view.State(l, legs(0, 9)); !slices.Equal(got, want) {
		t.Error(got)
	}
	check(t, l, legs(0, 9), 12)
}

// P14.1, P14.2, P14.3: no versions, a path without legs, and versions that the path does not see: nothing is told.
func TestNothingSeen(t *testing.T) {
	some := []api.Version{put(0, 3, 1, 0, 9, "a"), put(2, 1, 1, 0, 9, "b"), of("m", put(0, 9, 1, 0, 9, "c"))}
	cases := map[string]struct {
		l    []api.Version
		path []api.Leg
	}{
		"nothing at all":        {nil, nil},
		"no versions":           {nil, legs(0, 9)},
		"no versions, empty":    {[]api.Version{}, legs(0, 9, 1, 2)},
		"no legs":               {some, nil},
		"no legs, empty":        {some, []api.Leg{}},
		"other branches":        {some, legs(1, 9, 3, 9)},
		"earlier epochs":        {some, legs(0, 2, 2, 0)},
		"one of no branch":      {some, legs(-1, 9)},
		"a branch of each kind": {some, legs(1, 10000, 0, 2, 2, 0, 0, 1)},
	}
	for name, c := range cases {
		l, pieces, stamp := view.Order(c.l, c.path), view.State(c.l, c.path), view.Last(c.l, c.path)
		if len(l) != 0 || len(pieces) != 0 || stamp != (api.Stamp{}) {
			t.Errorf("%s: %v, %v, %v", name, l, pieces, stamp)
		}
		for _, at := range []int{-1, 0, 4, 9} {
			value, ok := view.Get(c.l, c.path, at)
			if pairs := view.Scan(c.l, c.path, at); value != "" || ok || len(pairs) != 0 {
				t.Errorf("%s at %d: %q %v, %v", name, at, value, ok, pairs)
			}
		}
	}
}

// P14.1: a path sees a leg's versions up to its epoch, that one too, and none of other branches.
func TestSeen(t *testing.T) {
	l := []api.Version{
		put(0, 4, 1, 0, 9, "a"), put(0, 5, 1, 0, 9, "b"), put(0, 6, 1, 0, 9, "c"),
		put(1, 4, 1, 0, 9, "d"), put(1, 9, 1, 0, 9, "e"), put(1, 10, 1, 0, 9, "f"), put(2, 1, 1, 0, 9, "g"),
	}
	cases := []struct {
		path []api.Leg
		want []int
	}{
		{legs(0, 3), nil},
		{legs(0, 4), []int{0}},
		{legs(0, 5), []int{0, 1}},
		{legs(0, 6), []int{0, 1, 2}},
		{legs(0, 10000), []int{0, 1, 2}},
		{legs(1, 9, 0, 5), []int{0, 1, 3, 4}},
		{legs(1, 9, 0, 3), []int{3, 4}},
		{legs(1, 3, 0, 5), []int{0, 1}},
		{legs(2, 1, 1, 10, 0, 6), []int{0, 1, 2, 3, 4, 5, 6}},
		{legs(3, 9, 2, 0, 1, 4), []int{3}},
	}
	for _, c := range cases {
		var want []api.Version
		for _, i := range c.want {
			want = append(want, l[i])
		}
		if got := view.Order(l, c.path); !slices.Equal(got, want) {
			t.Errorf("%v: %v, not %v", c.path, got, want)
		}
		check(t, l, c.path, 12)
	}
}

// P14.1: a path's last leg's versions come first, whatever their epochs and numbers are, and in whatever row all are handed in.
func TestLastLegFirst(t *testing.T) {
	root, mid, top := put(0, 5, 9, 8, 9, "root"), put(1, 4, 5, 4, 9, "mid"), put(2, 3, 1, 0, 9, "top")
	want := []api.Version{root, mid, top}
	path := legs(2, 9, 1, 7, 0, 5)
	for _, l := range [][]api.Version{
		{root, mid, top}, {root, top, mid}, {mid, root, top}, {mid, top, root}, {top, root, mid}, {top, mid, root},
	} {
		if got := view.Order(l, path); !slices.Equal(got, want) {
			t.Errorf("%v: %v", l, got)
		}
		if got := view.Last(l, path); got != top.At {
			t.Errorf("%v: the last one is of %v", l, got)
		}
		if value, ok := view.Get(l, path, 8); value != "top" || !ok {
			t.Errorf("%v: %q %v", l, value, ok)
		}
		check(t, l, path, 12)
	}
}

// P14.1: it is the legs' row that counts, not the branches' numbers.
func TestRowOfLegs(t *testing.T) {
	a, b, c := put(0, 1, 1, 0, 9, "a"), put(1, 1, 1, 0, 9, "b"), put(2, 1, 1, 0, 9, "c")
	l := []api.Version{b, a, c}
	cases := []struct {
		path []api.Leg
		want []api.Version
	}{
		{legs(0, 1, 1, 1, 2, 1), []api.Version{c, b, a}},
		{legs(2, 1, 1, 1, 0, 1), []api.Version{a, b, c}},
		{legs(1, 1, 2, 1, 0, 1), []api.Version{a, c, b}},
		{legs(1, 1, 0, 1, 2, 1), []api.Version{c, a, b}},
		{legs(2, 1, 0, 1), []api.Version{a, c}},
		{legs(0, 1, 2, 1), []api.Version{c, a}},
	}
	for _, c := range cases {
		if got := view.Order(l, c.path); !slices.Equal(got, c.want) {
			t.Errorf("%v: %v, not %v", c.path, got, c.want)
		}
	}
}

// P14.1: of a branch that stands in two legs a version is of the first one that sees it.
func TestBranchInTwoLegs(t *testing.T) {
	early, late, other := put(1, 2, 1, 0, 9, "early"), put(1, 7, 1, 0, 9, "late"), put(0, 4, 1, 0, 9, "other")
	l := []api.Version{other, late, early}
	cases := []struct {
		path []api.Leg
		want []api.Version
	}{
		{legs(1, 3, 0, 5, 1, 9), []api.Version{late, other, early}},
		{legs(1, 9, 0, 5, 1, 3), []api.Version{other, early, late}},
		{legs(1, 3, 1, 9), []api.Version{late, early}},
		{legs(1, 9, 1, 3), []api.Version{early, late}},
		{legs(1, 9, 1, 9), []api.Version{early, late}},
		{legs(0, 5, 1, 3, 1, 9), []api.Version{late, early, other}},
		{legs(1, 1, 0, 5, 1, 3, 1, 9), []api.Version{late, early, other}},
		{legs(1, 1, 0, 3, 1, 3, 0, 4, 1, 9), []api.Version{late, other, early}},
		{legs(1, 2, 0, 4, 1, 6), []api.Version{other, early}},
	}
	for _, c := range cases {
		if got := view.Order(l, c.path); !slices.Equal(got, c.want) {
			t.Errorf("%v: %v, not %v", c.path, got, c.want)
		}
		if got := view.Last(l, c.path); got != c.want[len(c.want)-1].At {
			t.Errorf("%v: the last one is of %v", c.path, got)
		}
		check(t, l, c.path, 12)
	}
}

// P14.1: of one leg by Epoch, then Seq, then From, whatever the things behind these are.
func TestOrderOfOneLeg(t *testing.T) {
	want := []api.Version{
		put(0, 1, 9, 8, 9, "z"), put(0, 2, 3, 8, 9, "z"), put(0, 2, 4, 7, 9, "y"), put(0, 2, 4, 8, 9, "x"),
		put(0, 10, 1, 0, 9, "w"), gone(0, 10, 2, 0, 1), put(0, 10, 10, 0, 1, "v"), put(0, 10, 10, 10, 11, "a"),
	}
	r := rand.New(rand.NewSource(14))
	for range 200 {
		l := slices.Clone(want)
		r.Shuffle(len(l), func(i, j int) { l[i], l[j] = l[j], l[i] })
		if got := view.Order(l, legs(0, 10)); !slices.Equal(got, want) {
			t.Fatalf("%v: %v", l, got)
		}
		if got := view.Last(l, legs(0, 10)); got != want[7].At {
			t.Fatalf("%v: the last one is of %v", l, got)
		}
	}
}

// P14.1: numbers below 0 are ordered as all are.
func TestOrderBelowZero(t *testing.T) {
	want := []api.Version{
		put(-1, -9, 3, 0, 9, "a"), put(-1, -2, -5, 0, 9, "b"), put(-1, -2, 1, -7, 9, "c"), put(-1, -2, 1, -3, 9, "d"),
	}
	l := []api.Version{want[2], want[0], want[3], want[1]}
	if got := view.Order(l, legs(-1, -2)); !slices.Equal(got, want) {
		t.Error(got)
	}
	if got := view.Order(l, legs(-1, -3)); !slices.Equal(got, want[:1]) {
		t.Error(got)
	}
}

// P14.1, P14.2: versions alike in leg, Epoch, Seq and From stay in the row in which they are handed in, whatever their keys, ends, values and Gone are, and however many there are.
func TestAlike(t *testing.T) {
	l := []api.Version{
		put(0, 1, 1, 0, 5, "c"), put(0, 1, 1, 0, 2, "b"), gone(0, 1, 1, 0, 3), put(0, 1, 1, 0, 9, "a"), of("j", put(0, 1, 1, 0, 1, "d")),
	}
	for at := range l {
		turned := slices.Concat(l[at:], l[:at])
		if got := view.Order(turned, legs(0, 1)); !slices.Equal(got, turned) {
			t.Errorf("%v: %v", turned, got)
		}
		check(t, turned, legs(0, 1), 12)
	}
	var many []api.Version
	for i := range 300 {
		many = append(many, put(i%3, 1, 1, 0, 1+(i*7)%40, fmt.Sprint(i*i%101)))
	}
	for _, path := range [][]api.Leg{legs(0, 1), legs(2, 1, 0, 1), legs(0, 1, 1, 1, 2, 1)} {
		check(t, many, path, 45)
	}
}

// overs is versions that are put one over the other, and the pieces that come of it; * is where it is Gone.
func overs() map[string]struct {
	l    []api.Version
	want []api.Piece
} {
	type c = struct {
		l    []api.Version
		want []api.Piece
	}
	a := put(0, 1, 1, 2, 8, "a")
	return map[string]struct {
		l    []api.Version
		want []api.Piece
	}{
		"one":                           c{[]api.Version{a}, []api.Piece{piece(2, 8, "a")}},
		"over it":                       c{[]api.Version{a, put(0, 2, 1, 2, 8, "b")}, []api.Piece{piece(2, 8, "b")}},
		"over more than it":             c{[]api.Version{a, put(0, 2, 1, 1, 9, "b")}, []api.Piece{piece(1, 9, "b")}},
		"over its beginning":            c{[]api.Version{a, put(0, 2, 1, 0, 4, "b")}, []api.Piece{piece(0, 4, "b"), piece(4, 8, "a")}},
		"over its end":                  c{[]api.Version{a, put(0, 2, 1, 6, 9, "b")}, []api.Piece{piece(2, 6, "a"), piece(6, 9, "b")}},
		"over its middle":               c{[]api.Version{a, put(0, 2, 1, 4, 6, "b")}, []api.Piece{piece(2, 4, "a"), piece(4, 6, "b"), piece(6, 8, "a")}},
		"the same over its middle":      c{[]api.Version{a, put(0, 2, 1, 4, 6, "a")}, []api.Piece{piece(2, 8, "a")}},
		"ahead of it":                   c{[]api.Version{a, put(0, 2, 1, 0, 1, "b")}, []api.Piece{piece(0, 1, "b"), piece(2, 8, "a")}},
		"up to it":                      c{[]api.Version{a, put(0, 2, 1, 0, 2, "b")}, []api.Piece{piece(0, 2, "b"), piece(2, 8, "a")}},
		"from its end on":               c{[]api.Version{a, put(0, 2, 1, 8, 9, "b")}, []api.Piece{piece(2, 8, "a"), piece(8, 9, "b")}},
		"the same up to it":             c{[]api.Version{a, put(0, 2, 1, 0, 2, "a")}, []api.Piece{piece(0, 8, "a")}},
		"the same from its end on":      c{[]api.Version{a, put(0, 2, 1, 8, 9, "a")}, []api.Piece{piece(2, 9, "a")}},
		"the same, apart":               c{[]api.Version{a, put(0, 2, 1, 9, 10, "a")}, []api.Piece{piece(2, 8, "a"), piece(9, 10, "a")}},
		"over two":                      c{[]api.Version{a, put(0, 2, 1, 8, 12, "b"), put(0, 3, 1, 5, 9, "c")}, []api.Piece{piece(2, 5, "a"), piece(5, 9, "c"), piece(9, 12, "b")}},
		"over two, the one's text":      c{[]api.Version{a, put(0, 2, 1, 8, 12, "b"), put(0, 3, 1, 5, 9, "a")}, []api.Piece{piece(2, 9, "a"), piece(9, 12, "b")}},
		"over two, and what is between": c{[]api.Version{a, put(0, 2, 1, 10, 12, "b"), put(0, 3, 1, 5, 11, "c")}, []api.Piece{piece(2, 5, "a"), piece(5, 11, "c"), piece(11, 12, "b")}},
		"between two of the same":       c{[]api.Version{a, put(0, 2, 1, 10, 12, "a"), put(0, 3, 1, 8, 10, "a")}, []api.Piece{piece(2, 12, "a")}},
		"no text":                       c{[]api.Version{a, put(0, 2, 1, 4, 6, "")}, []api.Piece{piece(2, 4, "a"), piece(4, 6, ""), piece(6, 8, "a")}},
		"no text at all":                c{[]api.Version{put(0, 2, 1, 4, 6, "")}, []api.Piece{piece(4, 6, "")}},
		"Gone over it":                  c{[]api.Version{a, gone(0, 2, 1, 2, 8)}, nil},
		"Gone over more than it":        c{[]api.Version{a, gone(0, 2, 1, 0, 9)}, nil},
		"Gone over its beginning":       c{[]api.Version{a, gone(0, 2, 1, 0, 3)}, []api.Piece{piece(3, 8, "a")}},
		"Gone over its end":             c{[]api.Version{a, gone(0, 2, 1, 7, 9)}, []api.Piece{piece(2, 7, "a")}},
		"Gone over its middle":          c{[]api.Version{a, gone(0, 2, 1, 4, 5)}, []api.Piece{piece(2, 4, "a"), piece(5, 8, "a")}},
		"Gone up to it":                 c{[]api.Version{a, gone(0, 2, 1, 0, 2)}, []api.Piece{piece(2, 8, "a")}},
		"Gone from its end on":          c{[]api.Version{a, gone(0, 2, 1, 8, 9)}, []api.Piece{piece(2, 8, "a")}},
		"Gone over nothing":             c{[]api.Version{gone(0, 2, 1, 8, 9)}, nil},
		"Gone ahead of the value":       c{[]api.Version{gone(0, 0, 1, 2, 8), a}, []api.Piece{piece(2, 8, "a")}},
		"put again":                     c{[]api.Version{a, gone(0, 2, 1, 2, 8), put(0, 3, 1, 3, 4, "a")}, []api.Piece{piece(3, 4, "a")}},
		"a hole filled":                 c{[]api.Version{a, gone(0, 2, 1, 4, 6), put(0, 3, 1, 4, 6, "a")}, []api.Piece{piece(2, 8, "a")}},
		"put by a later number":         c{[]api.Version{put(0, 1, 2, 4, 6, "b"), a}, []api.Piece{piece(2, 4, "a"), piece(4, 6, "b"), piece(6, 8, "a")}},
		"all times":                     c{[]api.Version{a, put(0, 2, 1, 0, 1<<40, "b")}, []api.Piece{piece(0, 1<<40, "b")}},
		"Gone of all times":             c{[]api.Version{a, gone(0, 2, 1, 0, 1<<40)}, nil},
		"the last time":                 c{[]api.Version{a, put(0, 2, 1, 1<<40-1, 1<<40, "b")}, []api.Piece{piece(2, 8, "a"), piece(1<<40-1, 1<<40, "b")}},
	}
}

// P14.2, P14.4: values over values, and Gone ones, over each part of what is there.
func TestOver(t *testing.T) {
	path := legs(0, 9)
	for name, c := range overs() {
		got := view.State(c.l, path)
		if !slices.Equal(got, c.want) {
			t.Errorf("%s: %v, not %v", name, got, c.want)
		}
		for _, at := range []int{-1, 0, 1, 2, 3, 4, 5, 6, 7, 8, 9, 10, 11, 12, 1<<40 - 2, 1<<40 - 1, 1 << 40} {
			value, ok := view.Get(c.l, path, at)
			if v, there := span.At(c.want, at); v != value || there != ok {
				t.Errorf("%s at %d: %q %v, not %q %v", name, at, value, ok, v, there)
			}
		}
	}
}

// P14.2: a Gone one that has a Value takes away as each other one does, and tells none.
func TestGoneWithValue(t *testing.T) {
	v := gone(0, 2, 1, 3, 5)
	v.Value = "x"
	l := []api.Version{put(0, 1, 1, 0, 9, "a"), v}
	if got := view.State(l, legs(0, 9)); !slices.Equal(got, []api.Piece{piece(0, 3, "a"), piece(5, 9, "a")}) {
		t.Error(got)
	}
	if value, ok := view.Get(l, legs(0, 9), 4); value != "" || ok {
		t.Error(value, ok)
	}
	if pairs := view.Scan(l, legs(0, 9), 4); len(pairs) != 0 {
		t.Error(pairs)
	}
	check(t, l, legs(0, 9), 12)
}

// P14.2, P14.3, P14.4: a version of a Span that may not be puts nothing and takes nothing away, at no time; but it is one of Order's.
func TestSpanThatMayNotBe(t *testing.T) {
	a := put(0, 1, 1, 2, 8, "a")
	for _, s := range []api.Span{
		{}, {From: 4, To: 4}, {From: 6, To: 3}, {From: 9, To: 0}, {From: -1, To: 5}, {From: -9, To: 1 << 41}, {From: 2, To: 1<<40 + 1},
		{From: math.MinInt, To: math.MaxInt}, {From: math.MaxInt, To: math.MinInt}, {From: -5, To: -2}, {From: 1 << 40, To: 1<<40 + 1},
	} {
		value, taken := put(0, 2, 1, s.From, s.To, "b"), gone(0, 2, 1, s.From, s.To)
		for _, l := range [][]api.Version{{a, value}, {a, taken}, {value, a}, {a, taken, value}} {
			if got := view.State(l, legs(0, 9)); !slices.Equal(got, []api.Piece{piece(2, 8, "a")}) {
				t.Errorf("State of %v: %v", l, got)
			}
			if got := view.Order(l, legs(0, 9)); len(got) != len(l) || view.Last(l, legs(0, 9)).Epoch != 2 {
				t.Errorf("Order of %v: %v", l, got)
			}
			check(t, l, legs(0, 9), 12)
		}
		alone := []api.Version{value}
		for _, at := range []int{s.From, s.To - 1, s.To, -1, 0, 4, 1 << 40} {
			v, ok := view.Get(alone, legs(0, 9), at)
			if pairs := view.Scan(alone, legs(0, 9), at); v != "" || ok || len(pairs) != 0 {
				t.Errorf("%v at %d: %q %v, %v", s, at, v, ok, pairs)
			}
		}
	}
}

// P14.2: Get at the ends of spans.
func TestGet(t *testing.T) {
	l := []api.Version{
		put(0, 1, 1, 0, 5, "a"), put(0, 1, 2, 5, 9, "b"), gone(0, 2, 1, 7, 8), put(0, 2, 2, 1<<40-2, 1<<40, "c"), put(0, 3, 1, 12, 13, ""),
	}
	cases := []struct {
		at    int
		value string
		ok    bool
	}{
		{math.MinInt, "", false}, {-1, "", false}, {0, "a", true}, {1, "a", true}, {4, "a", true}, {5, "b", true}, {6, "b", true},
		{7, "", false}, {8, "b", true}, {9, "", false}, {11, "", false}, {12, "", true}, {13, "", false}, {1<<40 - 3, "", false},
		{1<<40 - 2, "c", true}, {1<<40 - 1, "c", true}, {1 << 40, "", false}, {math.MaxInt, "", false},
	}
	for _, c := range cases {
		if value, ok := view.Get(l, legs(0, 9), c.at); value != c.value || ok != c.ok {
			t.Errorf("at %d: %q %v, not %q %v", c.at, value, ok, c.value, c.ok)
		}
	}
}

// P14.2: the last one in whose Span the time lies counts, though others stand behind it, and is asked by its own path.
func TestGetByPath(t *testing.T) {
	l := []api.Version{
		put(0, 1, 1, 0, 9, "a"), put(0, 3, 1, 4, 6, "b"), put(1, 2, 1, 5, 9, "c"), gone(1, 4, 1, 8, 9), put(2, 9, 9, 0, 9, "d"),
	}
	cases := []struct {
		path []api.Leg
		at   int
		want string
	}{
		{legs(0, 1), 4, "a"}, {legs(0, 2), 5, "a"}, {legs(0, 3), 5, "b"}, {legs(0, 3), 3, "a"}, {legs(0, 3), 6, "a"},
		{legs(1, 1, 0, 3), 5, "b"}, {legs(1, 2, 0, 3), 5, "c"}, {legs(1, 2, 0, 3), 4, "b"}, {legs(1, 2, 0, 1), 4, "a"},
		{legs(1, 3, 0, 3), 8, "c"}, {legs(0, 3, 1, 2), 5, "b"}, {legs(0, 3, 1, 2), 6, "a"}, {legs(1, 9), 5, "c"},
	}
	for _, c := range cases {
		if value, ok := view.Get(l, c.path, c.at); value != c.want || !ok {
			t.Errorf("%v at %d: %q %v, not %q", c.path, c.at, value, ok, c.want)
		}
	}
	for _, path := range [][]api.Leg{legs(1, 4, 0, 3), legs(1, 9)} {
		if value, ok := view.Get(l, path, 8); value != "" || ok {
			t.Errorf("%v: %q %v", path, value, ok)
		}
	}
}

// P14.1: Last is the last one of Order, a Gone one, and one of a Span that may not be, too.
func TestLast(t *testing.T) {
	l := []api.Version{put(0, 3, 2, 0, 9, "a"), gone(0, 3, 4, 0, 1), put(0, 3, 3, 5, 5, "b"), put(1, 1, 7, 0, 9, "c"), put(0, 1, 9, 0, 9, "d")}
	cases := []struct {
		path []api.Leg
		want api.Stamp
	}{
		{legs(0, 2), api.Stamp{Branch: 0, Epoch: 1, Seq: 9}}, {legs(0, 3), api.Stamp{Branch: 0, Epoch: 3, Seq: 4}},
		{legs(1, 9, 0, 9), api.Stamp{Branch: 1, Epoch: 1, Seq: 7}}, {legs(0, 9, 1, 9), api.Stamp{Branch: 0, Epoch: 3, Seq: 4}},
		{legs(1, 0, 0, 9), api.Stamp{Branch: 0, Epoch: 3, Seq: 4}}, {legs(0, 0), api.Stamp{}}, {nil, api.Stamp{}}, {legs(2, 9), api.Stamp{}},
	}
	for _, c := range cases {
		if got := view.Last(l, c.path); got != c.want {
			t.Errorf("%v: %v, not %v", c.path, got, c.want)
		}
	}
}

// P14.3: Scan of several keys, of any row, of one that is Gone at the time, of the empty text, of ones that the path does not see.
func TestScan(t *testing.T) {
	l := []api.Version{
		of("b", put(0, 1, 1, 0, 9, "b1")), of("", put(0, 1, 1, 0, 9, "none")), of("a\xff", put(0, 1, 1, 0, 9, "a255")),
		of("a", put(0, 1, 1, 0, 5, "a1")), of("ab", put(0, 1, 1, 0, 9, "ab1")), of("b", gone(0, 2, 1, 4, 6)),
		of("a", put(0, 2, 1, 3, 9, "a2")), of("\x00", put(0, 1, 1, 0, 9, "0")), of("c", put(1, 1, 1, 0, 9, "c1")),
		of("d", gone(0, 1, 1, 0, 9)), of("e", put(0, 3, 1, 0, 9, "")), of("\x80", put(0, 1, 1, 6, 7, "128")),
	}
	cases := []struct {
		path []api.Leg
		at   int
		want []api.Pair
	}{
		{legs(0, 1), 0, pairs("", "none", "\x00", "0", "a", "a1", "ab", "ab1", "a\xff", "a255", "b", "b1")},
		{legs(0, 1), 5, pairs("", "none", "\x00", "0", "ab", "ab1", "a\xff", "a255", "b", "b1")},
		{legs(0, 2), 3, pairs("", "none", "\x00", "0", "a", "a2", "ab", "ab1", "a\xff", "a255", "b", "b1")},
		{legs(0, 2), 4, pairs("", "none", "\x00", "0", "a", "a2", "ab", "ab1", "a\xff", "a255")},
		{legs(0, 2), 6, pairs("", "none", "\x00", "0", "a", "a2", "ab", "ab1", "a\xff", "a255", "b", "b1", "\x80", "128")},
		{legs(1, 9, 0, 3), 8, pairs("", "none", "\x00", "0", "a", "a2", "ab", "ab1", "a\xff", "a255", "b", "b1", "c", "c1", "e", "")},
		{legs(1, 9), 0, pairs("c", "c1")},
		{legs(0, 3), 9, nil},
		{legs(0, 3), -1, nil},
		{legs(0, 0), 3, nil},
		{nil, 3, nil},
	}
	r := rand.New(rand.NewSource(15))
	for range 50 {
		for _, c := range cases {
			if got := view.Scan(l, c.path, c.at); !slices.Equal(got, c.want) {
				t.Fatalf("%v at %d: %q, not %q", c.path, c.at, got, c.want)
			}
		}
		r.Shuffle(len(l), func(i, j int) { l[i], l[j] = l[j], l[i] })
	}
}

// pairs is keys and what stands there, one after the other.
func pairs(texts ...string) []api.Pair {
	var l []api.Pair
	for i := 0; i < len(texts); i += 2 {
		l = append(l, api.Pair{Key: texts[i], Value: texts[i+1]})
	}
	return l
}

// P14.3: of versions that are alike the last one of its own key counts, wherever those of other keys stand.
func TestScanOfAlike(t *testing.T) {
	l := []api.Version{
		of("b", put(0, 1, 1, 0, 9, "b1")), of("a", put(0, 1, 1, 0, 9, "a1")), of("b", put(0, 1, 1, 0, 9, "b2")),
		of("c", put(0, 1, 1, 0, 9, "c1")), of("a", put(0, 1, 1, 0, 9, "a2")), of("c", gone(0, 1, 1, 0, 9)),
	}
	if got := view.Scan(l, legs(0, 1), 4); !slices.Equal(got, pairs("a", "a2", "b", "b2")) {
		t.Error(got)
	}
	slices.Reverse(l)
	if got := view.Scan(l, legs(0, 1), 4); !slices.Equal(got, pairs("a", "a1", "b", "b1", "c", "c1")) {
		t.Error(got)
	}
}

// P14.1 to P14.4: all lists of up to three versions of a few kinds, of paths of each kind.
func TestAllSmallLists(t *testing.T) {
	kinds := []api.Version{
		put(0, 1, 1, 0, 2, "a"), put(0, 1, 1, 0, 3, "b"), put(0, 2, 1, 1, 3, "a"), gone(0, 2, 2, 1, 2), put(1, 1, 1, 1, 4, "b"),
		gone(1, 2, 1, 0, 3), put(1, 2, 1, 2, 4, "a"), put(0, 1, 2, 2, 2, "b"), of("j", put(0, 2, 1, 0, 4, "c")), of("j", gone(1, 1, 2, -1, 3)),
	}
	paths := [][]api.Leg{nil, legs(0, 1), legs(0, 2), legs(1, 2, 0, 1), legs(0, 2, 1, 2), legs(0, 1, 1, 1, 0, 2), legs(1, 2, 0, 2, 1, 1)}
	var l []api.Version
	var each func(more int)
	each = func(more int) {
		for _, path := range paths {
			check(t, l, path, 5)
		}
		if more == 0 {
			return
		}
		for _, v := range kinds {
			l = append(l, v)
			each(more - 1)
			l = l[:len(l)-1]
		}
	}
	each(3)
}

// drawn is a version of a few, so that drawn ones are alike, touch, and lie over one another.
func drawn(r *rand.Rand, keys int) api.Version {
	from := r.Intn(12) - 1
	v := put(r.Intn(4), r.Intn(5), r.Intn(3), from, from+r.Intn(7), string(rune('a'+r.Intn(3))))
	v.Key = []string{"k", "", "ka", "\xff"}[r.Intn(keys)]
	v.Gone = r.Intn(3) == 0
	return v
}

// anyPath is a path of up to five legs.
func anyPath(r *rand.Rand) []api.Leg {
	var path []api.Leg
	for range r.Intn(6) {
		path = append(path, api.Leg{Branch: r.Intn(4), Epoch: r.Intn(6) - 1})
	}
	return path
}

// P14.1 to P14.4: any versions, of any paths.
func TestAny(t *testing.T) {
	r := rand.New(rand.NewSource(16))
	for i := range 4000 {
		l := make([]api.Version, r.Intn(30))
		for at := range l {
			l[at] = drawn(r, 1+i%4)
		}
		check(t, l, anyPath(r), 20)
	}
}

// P14.1 to P14.4: versions that may be, of branches that may be, by the paths of chapter 11.
func TestAnyTree(t *testing.T) {
	r := rand.New(rand.NewSource(17))
	for range 500 {
		branches := []api.Branch{{Parent: -1}}
		for place := range r.Intn(6) {
			branches = append(branches, api.Branch{Parent: r.Intn(place + 1), Fork: r.Intn(6)})
		}
		var l []api.Version
		for range r.Intn(40) {
			from := r.Intn(12)
			v := put(r.Intn(len(branches)), 1+r.Intn(6), 1+r.Intn(3), from, from+1+r.Intn(6), string(rune('a'+r.Intn(3))))
			v.Key = "\x01" + string(rune('a'+r.Intn(3)))
			l = append(l, v)
		}
		slices.SortStableFunc(l, row.Compare)
		for branch := range branches {
			check(t, l, tree.Path(branches, branch, r.Intn(8)), 20)
		}
	}
}

// P14.2: the pieces of State are least and in order, so that what comes of them is theirs, whatever the versions were.
func TestStateIsLeast(t *testing.T) {
	r := rand.New(rand.NewSource(18))
	for range 2000 {
		l := make([]api.Version, r.Intn(25))
		for at := range l {
			l[at] = drawn(r, 1)
		}
		pieces := view.State(l, anyPath(r))
		for i, p := range pieces {
			if !span.May(p.Span) {
				t.Fatalf("%v: %v may not be", l, p)
			}
			if i == 0 {
				continue
			}
			if ahead := pieces[i-1]; ahead.Span.To > p.Span.From || ahead.Span.To == p.Span.From && ahead.Value == p.Value {
				t.Fatalf("%v: %v, %v", l, ahead, p)
			}
		}
	}
}

// R1: versions, paths and times at the ends of what an int may be.
func TestEnds(t *testing.T) {
	ends := []int{math.MinInt, -1, 0, 1, 1 << 40, math.MaxInt}
	var l []api.Version
	var path []api.Leg
	for _, a := range ends {
		for _, b := range ends {
			path = append(path, api.Leg{Branch: a, Epoch: b})
			for _, c := range ends {
				l = append(l, put(a, b, c, b, c, "x"), put(a, b, a, c, b, "y"), gone(c, b, a, a, c))
			}
		}
	}
	if got, want := view.Order(l, path), order(l, path); !slices.Equal(got, want) || len(got) != len(l) {
		t.Errorf("%d versions, not %d", len(got), len(want))
	}
	if got, want := view.Last(l, path), order(l, path)[len(l)-1].At; got != want {
		t.Errorf("%v, not %v", got, want)
	}
	pieces := view.State(l, path)
	for _, at := range append(ends, 2, 1<<40-1, 1<<40+1) {
		value, ok := view.Get(l, path, at)
		want, wantOK := get(l, path, at)
		v, there := span.At(pieces, at)
		if value != want || ok != wantOK || v != want || there != wantOK {
			t.Errorf("at %d: %q %v, %q %v, not %q %v", at, value, ok, v, there, want, wantOK)
		}
		if got := view.Scan(l, path, at); !slices.Equal(got, scan(l, path, at)) {
			t.Errorf("at %d: %v", at, got)
		}
	}
}

// R1: many versions, of one key and of many, and a path of many legs, at no greater cost than there is for.
func TestMany(t *testing.T) {
	const n = 100000
	var l []api.Version
	for i := range n {
		l = append(l, put(i%16, 1+(i*7919)%n, 1+i%5, i%50, i%50+1+i%9, fmt.Sprint(i%100)))
	}
	var path []api.Leg
	for branch := range 16 {
		path = append(path, api.Leg{Branch: branch, Epoch: n})
	}
	if got := view.Order(l, path); len(got) != n || got[n-1].At.Branch != 0 {
		t.Error(len(got))
	}
	pieces := view.State(l, path)
	for _, at := range []int{-1, 0, 25, 57, 58} {
		value, ok := view.Get(l, path, at)
		if v, there := span.At(pieces, at); v != value || there != ok {
			t.Errorf("at %d: %q %v, %q %v", at, value, ok, v, there)
		}
	}
	for i := range l {
		l[i].Key, l[i].Span.To = fmt.Sprintf("%06d", (i*7919)%n), 60
	}
	if got := view.Scan(l, path, 55); len(got) != n || !slices.IsSortedFunc(got, func(a, b api.Pair) int { return compare(a.Key, b.Key) }) {
		t.Error(len(got))
	}
}

// compare is the order of texts, byte by byte.
func compare(a, b string) int {
	return slices.Compare([]byte(a), []byte(b))
}

// spare is a list in the midst of a longer one, whose spare room is told by v.
func spare[T any](l []T, v T) (all, part []T) {
	all = append(append([]T{v}, l...), v, v, v)
	return all, all[1 : 1+len(l)]
}

// some is versions of two keys, and a path that sees most of them.
func some() ([]api.Version, []api.Leg) {
	l := []api.Version{
		put(1, 2, 1, 3, 5, "c"), put(0, 9, 1, 0, 9, "not seen"), gone(1, 3, 1, 4, 6), put(0, 2, 1, 0, 9, "a"), put(0, 1, 1, 0, 9, "b"),
		of("j", put(1, 1, 1, 0, 9, "j")), of("j", put(0, 1, 1, 0, 9, "i")),
	}
	return l, legs(1, 9, 0, 5)
}

// ask is all calls, asked of the same things.
func ask(l []api.Version, path []api.Leg) []any {
	value, ok := view.Get(l, path, 3)
	return []any{view.Order(l, path), view.State(l, path), value, ok, view.Last(l, path), view.Scan(l, path, 3)}
}

// R4: what is handed in stays as it was, its spare room too.
func TestNothingIsChanged(t *testing.T) {
	l, path := some()
	all, l := spare(l, put(7, 7, 7, 7, 8, "spare"))
	allLegs, path := spare(path, api.Leg{Branch: 1, Epoch: 77})
	was, wasLegs := slices.Clone(all), slices.Clone(allLegs)
	for range 3 {
		ask(l, path)
		if !slices.Equal(all, was) || !slices.Equal(allLegs, wasLegs) {
			t.Fatalf("changed: %v, %v", all, allLegs)
		}
	}
}

// R4: what is told is new memory, its spare room too: whatever is written into it, what was handed in and other answers stay.
func TestAnswersAreNewMemory(t *testing.T) {
	l, path := some()
	inRow := view.Order(l, path)
	for name, l := range map[string][]api.Version{"in another row": l, "in order": inRow, "one": inRow[:1]} {
		was, want := slices.Clone(l), fmt.Sprint(ask(l, path))
		other := ask(l, path)
		versions, pieces, found := view.Order(l, path), view.State(l, path), view.Scan(l, path, 3)
		for i := range versions[:cap(versions)] {
			versions[:cap(versions)][i] = put(9, 9, 9, 9, 10, "spoilt")
		}
		for i := range pieces[:cap(pieces)] {
			pieces[:cap(pieces)][i] = piece(9, 10, "spoilt")
		}
		for i := range found[:cap(found)] {
			found[:cap(found)][i] = api.Pair{Key: "spoilt", Value: "spoilt"}
		}
		if !slices.Equal(l, was) || fmt.Sprint(other) != want || fmt.Sprint(ask(l, path)) != want {
			t.Errorf("%s: %v", name, l)
		}
	}
}

// R4, R5: nothing of what was handed in is kept: asked anew, of what is other now, the answer is another one, and what was told stays.
func TestNothingIsKept(t *testing.T) {
	l, path := some()
	first := ask(l, path)
	told := fmt.Sprint(first)
	for i := range l {
		l[i] = put(2, 1, i+1, 0, 9, "other")
	}
	path[0] = api.Leg{Branch: 2, Epoch: 9}
	if value, ok := view.Get(l, path, 3); value != "other" || !ok || view.Last(l, path).Branch != 2 {
		t.Error(value, ok)
	}
	if fmt.Sprint(first) != told {
		t.Error(first)
	}
	l, path = some()
	if got := fmt.Sprint(ask(l, path)); got != told {
		t.Error(got)
	}
}

// R5: the same is told each time, of whatever room what is handed in has, and of equal texts at other places.
func TestTheSameEachTime(t *testing.T) {
	var l []api.Version
	for i := range 60 {
		l = append(l, of(fmt.Sprint("key", i%20), put(i%2, 1+i%4, 1, 0, 9, fmt.Sprint(i))))
	}
	path := legs(1, 3, 0, 4)
	want := fmt.Sprint(ask(l, path))
	for range 20 {
		_, part := spare(l, put(0, 1, 1, 0, 9, "spare"))
		for i := range part {
			part[i].Key = string([]byte(part[i].Key))
		}
		if got := fmt.Sprint(ask(part, path)); got != want {
			t.Fatalf("%v, not %v", got, want)
		}
	}
}
