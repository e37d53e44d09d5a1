package merge_test

import (
	"cmp"
	"iter"
	"math"
	"math/rand"
	"slices"
	"strings"
	"testing"

	"duramen/merge"
)

// thing is something that stood at a place of a list: things of one key are alike in the order, and still told apart.
type thing struct {
	key, list, place int
}

// byKey is the order of things.
func byKey(a, b thing) int { return cmp.Compare(a.key, b.key) }

// farByKey is the order of things, told by numbers as far from 0 as may be.
func farByKey(a, b thing) int {
	switch {
	case a.key < b.key:
		return math.MinInt
	case a.key > b.key:
		return math.MaxInt
	}
	return 0
}

// backByKey is the order of things from behind.
func backByKey(a, b thing) int { return farByKey(b, a) }

// label is the things of keys, list by list.
func label(keys ...[]int) [][]thing {
	var out [][]thing
	for list, l := range keys {
		out = append(out, nil)
		for place, key := range l {
			out[list] = append(out[list], thing{key, list, place})
		}
	}
	return out
}

// reversed is each of l from behind.
func reversed[T any](l [][]T) [][]T {
	var out [][]T
	for _, list := range l {
		list = slices.Clone(list)
		slices.Reverse(list)
		out = append(out, list)
	}
	return out
}

// clones is l, in memory of its own.
func clones[T any](l [][]T) [][]T {
	var out [][]T
	for _, list := range l {
		out = append(out, slices.Clone(list))
	}
	return out
}

// mergedSlowly is l as one, by the document's words: all things, those that are alike in the order in which they came.
func mergedSlowly[T any](order func(a, b T) int, l [][]T) []T {
	out := slices.Concat(l...)
	slices.SortStableFunc(out, order)
	return out
}

// collect is what is told one by one.
func collect[T any](each iter.Seq[T]) []T {
	var out []T
	for x := range each {
		out = append(out, x)
	}
	return out
}

// sameThings tells whether a and b have the same things, in whatever order.
func sameThings(a, b []thing) bool {
	return slices.Equal(inPlace(a), inPlace(b))
}

// inPlace is the things of l by where they stood.
func inPlace(l []thing) []thing {
	out := slices.Clone(l)
	slices.SortFunc(out, func(a, b thing) int {
		return cmp.Or(cmp.Compare(a.list, b.list), cmp.Compare(a.place, b.place), cmp.Compare(a.key, b.key))
	})
	return out
}

// lists is all lists of at most long numbers from 0 on, ahead of kinds.
func lists(kinds, long int) [][]int {
	out, last := [][]int{nil}, [][]int{nil}
	for range long {
		var next [][]int
		for _, l := range last {
			for n := range kinds {
				next = append(next, append(slices.Clone(l), n))
			}
		}
		out, last = append(out, next...), next
	}
	return out
}

// sortedLists is those of lists that are sorted.
func sortedLists(kinds, long int) [][]int {
	return slices.DeleteFunc(lists(kinds, long), func(l []int) bool { return !slices.IsSorted(l) })
}

// anyKeys is some lists of keys, sorted or not.
func anyKeys(r *rand.Rand, most, long, kinds int) [][]int {
	out := make([][]int, r.Intn(most+1))
	for i := range out {
		for range r.Intn(long + 1) {
			out[i] = append(out[i], r.Intn(kinds))
		}
	}
	return out
}

// anySorted is some sorted lists of keys.
func anySorted(r *rand.Rand, most, long, kinds int) [][]int {
	out := anyKeys(r, most, long, kinds)
	for _, l := range out {
		slices.Sort(l)
	}
	return out
}

// checkMerged tests All and Each of lists sorted by order.
func checkMerged(t *testing.T, order func(a, b thing) int, l [][]thing) {
	t.Helper()
	want := mergedSlowly(order, l)
	if got := merge.All(order, l...); !slices.Equal(got, want) {
		t.Fatalf("All of %v = %v", l, got)
	}
	if got := collect(merge.Each(order, l...)); !slices.Equal(got, want) {
		t.Fatalf("Each of %v = %v", l, got)
	}
}

// P10.1: Numbers, and All and Each of numbers.
func TestNumbers(t *testing.T) {
	for _, c := range []struct {
		l    [][]int
		want []int
	}{
		{[][]int{{1, 4}, {2, 3, 9}}, []int{1, 2, 3, 4, 9}},
		{[][]int{{2, 3, 9}, {1, 4}}, []int{1, 2, 3, 4, 9}},
		{nil, nil},
		{[][]int{}, nil},
		{[][]int{nil}, nil},
		{[][]int{{}}, nil},
		{[][]int{nil, {}, nil}, nil},
		{[][]int{{5}}, []int{5}},
		{[][]int{{1, 2, 2, 3}}, []int{1, 2, 2, 3}},
		{[][]int{nil, {1, 2}}, []int{1, 2}},
		{[][]int{{1, 2}, {}}, []int{1, 2}},
		{[][]int{nil, {2}, {}, {1}, nil}, []int{1, 2}},
		{[][]int{{1, 2}, {3, 4}}, []int{1, 2, 3, 4}},
		{[][]int{{3, 4}, {1, 2}}, []int{1, 2, 3, 4}},
		{[][]int{{1, 1}, {1}, {1, 1, 1}}, []int{1, 1, 1, 1, 1, 1}},
		{[][]int{{0, 10}, {-10, 9}, {2}}, []int{-10, 0, 2, 9, 10}},
		{[][]int{{math.MaxInt}, {math.MinInt}, {0}}, []int{math.MinInt, 0, math.MaxInt}},
		{[][]int{{math.MinInt, -1, math.MaxInt}, {math.MinInt + 1, 1, math.MaxInt}}, []int{math.MinInt, math.MinInt + 1, -1, 1, math.MaxInt, math.MaxInt}},
	} {
		if got := merge.Numbers(c.l...); !slices.Equal(got, c.want) {
			t.Errorf("Numbers of %v = %v", c.l, got)
		}
		if got := merge.All(cmp.Compare[int], c.l...); !slices.Equal(got, c.want) {
			t.Errorf("All of %v = %v", c.l, got)
		}
		if got := collect(merge.Each(cmp.Compare[int], c.l...)); !slices.Equal(got, c.want) {
			t.Errorf("Each of %v = %v", c.l, got)
		}
	}
}

// P10.1: Strings, byte by byte.
func TestStrings(t *testing.T) {
	for _, c := range []struct {
		l    [][]string
		want []string
	}{
		{[][]string{{"a", "d"}, {"b", "c"}}, []string{"a", "b", "c", "d"}},
		{nil, nil},
		{[][]string{nil, {}}, nil},
		{[][]string{{""}, nil, {""}}, []string{"", ""}},
		{[][]string{{"b"}, {"", "a"}}, []string{"", "a", "b"}},
		{[][]string{{"ab"}, {"a", "b"}, {"abc"}}, []string{"a", "ab", "abc", "b"}},
		{[][]string{{"B", "a"}, {"A", "b"}}, []string{"A", "B", "a", "b"}},
		{[][]string{{"10"}, {"9"}, {"2"}}, []string{"10", "2", "9"}},
		{[][]string{{"a\x00", "a\xff"}, {"a", "aa"}}, []string{"a", "a\x00", "aa", "a\xff"}},
		{[][]string{{"z", "\xff"}, {"\x00", "\u00e9"}, {"\x80"}}, []string{"\x00", "z", "\x80", "\u00e9", "\xff"}},
		{[][]string{{"a", "a"}, {"a", "b"}}, []string{"a", "a", "a", "b"}},
	} {
		if got := merge.Strings(c.l...); !slices.Equal(got, c.want) {
			t.Errorf("Strings of %q = %q", c.l, got)
		}
	}
}

// P10.1: of things that are alike those of the list that comes first come first, each list's in their order.
func TestAlike(t *testing.T) {
	for _, c := range []struct {
		l    [][]int
		want []thing
	}{
		{[][]int{{1, 1, 1}}, []thing{{1, 0, 0}, {1, 0, 1}, {1, 0, 2}}},
		{[][]int{{1}, {1}, {1}}, []thing{{1, 0, 0}, {1, 1, 0}, {1, 2, 0}}},
		{[][]int{{1, 1}, {1, 1}}, []thing{{1, 0, 0}, {1, 0, 1}, {1, 1, 0}, {1, 1, 1}}},
		{[][]int{{2, 2}, {1, 2}, {2}}, []thing{{1, 1, 0}, {2, 0, 0}, {2, 0, 1}, {2, 1, 1}, {2, 2, 0}}},
		{[][]int{nil, {3}, {}, {2, 3}, {3, 3}, {0}}, []thing{{0, 5, 0}, {2, 3, 0}, {3, 1, 0}, {3, 3, 1}, {3, 4, 0}, {3, 4, 1}}},
	} {
		l := label(c.l...)
		if got := merge.All(byKey, l...); !slices.Equal(got, c.want) {
			t.Errorf("All of %v = %v", c.l, got)
		}
		if got := collect(merge.Each(byKey, l...)); !slices.Equal(got, c.want) {
			t.Errorf("Each of %v = %v", c.l, got)
		}
	}
}

// P10.1: the merged lists of all small ones.
func TestAllSmallLists(t *testing.T) {
	small := sortedLists(3, 3)
	for _, a := range small {
		checkMerged(t, byKey, label(a))
		for _, b := range small {
			checkMerged(t, byKey, label(a, b))
			for _, c := range small {
				checkMerged(t, byKey, label(a, b, c))
			}
		}
	}
	tiny := sortedLists(2, 1)
	for i := range int(math.Pow(float64(len(tiny)), 7)) {
		var l [][]int
		for ; len(l) < 7; i /= len(tiny) {
			l = append(l, tiny[i%len(tiny)])
		}
		checkMerged(t, byKey, label(l...))
	}
}

// P10.1: any sorted lists, by orders that are told in other ways.
func TestAnySortedLists(t *testing.T) {
	r := rand.New(rand.NewSource(1))
	for range 3000 {
		l := label(anySorted(r, 12, 20, 1+r.Intn(30))...)
		checkMerged(t, byKey, l)
		checkMerged(t, farByKey, l)
		checkMerged(t, backByKey, reversed(l))
	}
}

// P10.1: an order by which many things are alike that are not the same.
func TestOrderOfLengths(t *testing.T) {
	byLength := func(a, b string) int { return len(a) - len(b) }
	got := merge.All(byLength, []string{"z", "y", "bb"}, []string{"", "x", "aa", "ccc"}, []string{"abc"})
	if want := []string{"", "z", "y", "x", "bb", "aa", "ccc", "abc"}; !slices.Equal(got, want) {
		t.Errorf("%q", got)
	}
}

// P10.1: things of other types, nil among them.
func TestThingsOfOtherTypes(t *testing.T) {
	a, b, c := new(int), new(int), new(int)
	*a, *b, *c = 1, 2, 3
	byWhat := func(x, y *int) int { return cmp.Compare(*x, *y) }
	if got := merge.All(byWhat, []*int{b}, []*int{a, c}); !slices.Equal(got, []*int{a, b, c}) {
		t.Error("pointers", got)
	}
	alike := func(x, y any) int { return 0 }
	if got := merge.All(alike, []any{nil, 1}, []any{"a", nil}, []any{nil}); !slices.Equal(got, []any{nil, 1, "a", nil, nil}) {
		t.Error("anything", got)
	}
	if got := merge.Once(alike, []any{1, "a", nil}); !slices.Equal(got, []any{nil}) {
		t.Error("anything once", got)
	}
	byLength := func(x, y []byte) int { return cmp.Compare(len(x), len(y)) }
	if got := merge.All(byLength, [][]byte{nil, {1}}, [][]byte{{}, {2}, {3, 4}}); len(got) != 5 || got[0] != nil || got[1] == nil || got[2][0] != 1 || got[3][0] != 2 || got[4][1] != 4 {
		t.Error("bytes", got)
	}
	empty := func(x, y struct{}) int { return 0 }
	if got := merge.All(empty, make([]struct{}, 3), make([]struct{}, 4)); len(got) != 7 {
		t.Error("empty things", len(got))
	}
}

// P10.1: many things of many lists.
func TestMany(t *testing.T) {
	l := make([][]int, 400)
	for n := range 200000 {
		i := n * n % 397
		l[i] = append(l[i], n)
	}
	got := merge.Numbers(l...)
	if len(got) != 200000 {
		t.Fatal(len(got))
	}
	for n, x := range got {
		if x != n {
			t.Fatal(n, x)
		}
	}
}

// P10.1: of lists that are not sorted all things, in an order that hangs on them alone.
func checkUnsorted(t *testing.T, l [][]thing) {
	t.Helper()
	got := merge.All(byKey, l...)
	if !sameThings(got, slices.Concat(l...)) {
		t.Fatalf("All of %v = %v", l, got)
	}
	roomy := clones(l)
	for i := range roomy {
		roomy[i] = slices.Grow(roomy[i], 50)
	}
	if again := merge.All(byKey, roomy...); !slices.Equal(again, got) {
		t.Fatalf("All of %v = %v, and then %v", l, got, again)
	}
	if each := collect(merge.Each(byKey, l...)); !slices.Equal(each, got) {
		t.Fatalf("Each of %v = %v, but All %v", l, each, got)
	}
}

// P10.1: lists that are not sorted.
func TestUnsortedLists(t *testing.T) {
	small := lists(3, 3)
	for _, a := range small {
		checkUnsorted(t, label(a))
		for _, b := range small {
			checkUnsorted(t, label(a, b))
		}
	}
	r := rand.New(rand.NewSource(2))
	for range 2000 {
		checkUnsorted(t, label(anyKeys(r, 12, 20, 1+r.Intn(30))...))
	}
}

// P10.1: Strings and Numbers of lists that are not sorted.
func TestUnsortedTextsAndNumbers(t *testing.T) {
	texts := merge.Strings([]string{"c", "a"}, []string{"b", "d", "a"})
	if slices.Sort(texts); !slices.Equal(texts, []string{"a", "a", "b", "c", "d"}) {
		t.Errorf("%q", texts)
	}
	numbers := merge.Numbers([]int{3, 1}, []int{2, 4, 1, math.MinInt})
	if slices.Sort(numbers); !slices.Equal(numbers, []int{math.MinInt, 1, 1, 2, 3, 4}) {
		t.Error(numbers)
	}
}

// noOrders is functions that are the order of nothing, some of which panic.
func noOrders() []func(a, b thing) int {
	asked := 0
	var out []func(a, b thing) int
	for _, n := range []int{math.MinInt, -1, 0, 1, math.MaxInt} {
		out = append(out, func(a, b thing) int { return n })
	}
	return append(out,
		func(a, b thing) int { asked++; return asked%3 - 1 },
		func(a, b thing) int { return (a.key+2*b.key)%3 - 1 },
		func(a, b thing) int { panic("no order") },
		func(a, b thing) int { var none []int; return none[a.key] },
		func(a, b thing) int {
			if a.key == b.key {
				panic("alike")
			}
			return byKey(a, b)
		},
	)
}

// P10.1, R1: whatever the order tells, or if it panics, the calls end, do not panic, and lose nothing.
func TestNoOrder(t *testing.T) {
	r := rand.New(rand.NewSource(3))
	for range 300 {
		l := label(anyKeys(r, 8, 10, 5)...)
		all := slices.Concat(l...)
		for i, order := range noOrders() {
			if got := merge.All(order, l...); !sameThings(got, all) {
				t.Fatalf("%d: All of %v = %v", i, l, got)
			}
			if got := collect(merge.Each(order, l...)); !sameThings(got, all) {
				t.Fatalf("%d: Each of %v = %v", i, l, got)
			}
			if got := merge.Once(order, all); len(all) > 0 && (len(got) == 0 || got[len(got)-1] != all[len(all)-1]) {
				t.Fatalf("%d: Once of %v = %v", i, all, got)
			}
		}
	}
}

// P10.1, R1: things of which the order tells nothing, as it panics, are not taken as alike.
func TestOnceOfOrderThatPanics(t *testing.T) {
	l := label([]int{1, 1, 2, 2, 3, 3})[0]
	got := merge.Once(func(a, b thing) int {
		if a.key == 2 {
			panic("no order")
		}
		return byKey(a, b)
	}, l)
	if want := []thing{{1, 0, 1}, {2, 0, 2}, {2, 0, 3}, {3, 0, 5}}; !slices.Equal(got, want) {
		t.Error(got)
	}
}

// P10.1: an order by which all is alike leaves one list behind the other, and once the last thing alone.
func TestAllAlike(t *testing.T) {
	alike := func(a, b int) int { return 0 }
	if got := merge.All(alike, []int{3, 1}, nil, []int{2}, []int{9, 0}); !slices.Equal(got, []int{3, 1, 2, 9, 0}) {
		t.Error(got)
	}
	if got := merge.Once(alike, []int{3, 1, 2}); !slices.Equal(got, []int{2}) {
		t.Error(got)
	}
}

// P10.1: what Each tells may be ended anywhere, and be told again.
func TestEachIsEndedAnywhere(t *testing.T) {
	l := label([]int{1, 4, 4}, nil, []int{2, 4, 9}, []int{0, 4})
	want := merge.All(byKey, l...)
	each := merge.Each(byKey, l...)
	for n := range len(want) + 2 {
		var got []thing
		for x := range each {
			if len(got) == n {
				break
			}
			got = append(got, x)
		}
		if !slices.Equal(got, want[:min(n, len(want))]) {
			t.Errorf("the first %d = %v", n, got)
		}
	}
	if got := collect(each); !slices.Equal(got, want) {
		t.Errorf("told again: %v", got)
	}
}

// P10.1: behind its end nothing is told.
func TestEachIsEndedForGood(t *testing.T) {
	each := merge.Each(cmp.Compare[int], []int{1, 3}, []int{2, 4})
	for n := 1; n <= 4; n++ {
		told := 0
		each(func(x int) bool {
			told++
			return x < n
		})
		if told != n {
			t.Errorf("ended at %d: %d were told", n, told)
		}
	}
	for range merge.Each(cmp.Compare[int]) {
		t.Error("no lists")
	}
	for range merge.Each(cmp.Compare[int], nil, []int{}) {
		t.Error("empty lists")
	}
}

// P10.1: what is told of one thing does not hang on what another one tells meanwhile.
func TestEachWithinEach(t *testing.T) {
	each := merge.Each(cmp.Compare[int], []int{1, 3}, []int{2})
	var got []int
	for x := range each {
		for y := range each {
			got = append(got, 10*x+y)
		}
	}
	if want := []int{11, 12, 13, 21, 22, 23, 31, 32, 33}; !slices.Equal(got, want) {
		t.Error(got)
	}
}

// P10.1: what panics where things are told is told on.
func TestEachOfOneThatPanics(t *testing.T) {
	defer func() {
		if recover() != "the caller's" {
			t.Error("lost")
		}
	}()
	for x := range merge.Each(cmp.Compare[int], []int{1, 2}, []int{3}) {
		if x == 2 {
			panic("the caller's")
		}
	}
	t.Error("gone on")
}

// P10.1: Once.
func TestOnce(t *testing.T) {
	for _, c := range []struct {
		keys []int
		want []thing
	}{
		{nil, nil},
		{[]int{}, nil},
		{[]int{1}, []thing{{1, 0, 0}}},
		{[]int{1, 1}, []thing{{1, 0, 1}}},
		{[]int{1, 1, 1}, []thing{{1, 0, 2}}},
		{[]int{1, 2, 3}, []thing{{1, 0, 0}, {2, 0, 1}, {3, 0, 2}}},
		{[]int{1, 1, 2, 3, 3}, []thing{{1, 0, 1}, {2, 0, 2}, {3, 0, 4}}},
		{[]int{1, 2, 2, 2, 3}, []thing{{1, 0, 0}, {2, 0, 3}, {3, 0, 4}}},
		{[]int{1, 2, 1}, []thing{{1, 0, 0}, {2, 0, 1}, {1, 0, 2}}},
		{[]int{3, 3, 1, 1, 3, 2}, []thing{{3, 0, 1}, {1, 0, 3}, {3, 0, 4}, {2, 0, 5}}},
	} {
		for _, order := range []func(a, b thing) int{byKey, farByKey, backByKey} {
			if got := merge.Once(order, label(c.keys)[0]); !slices.Equal(got, c.want) {
				t.Errorf("Once of %v = %v", c.keys, got)
			}
		}
	}
}

// onceSlowly is Once, from behind: what is alike the one that was kept last is not kept.
func onceSlowly(l []thing) []thing {
	var out []thing
	for _, x := range slices.Backward(l) {
		if len(out) == 0 || out[len(out)-1].key != x.key {
			out = append(out, x)
		}
	}
	slices.Reverse(out)
	return out
}

// P10.1: Once of all small lists, and of any.
func TestOnceOfAllLists(t *testing.T) {
	all := lists(3, 6)
	r := rand.New(rand.NewSource(4))
	for range 1000 {
		all = append(all, slices.Concat(anySorted(r, 2, 20, 1+r.Intn(9))...))
	}
	for _, keys := range all {
		l := label(keys)[0]
		got := merge.Once(byKey, l)
		if !slices.Equal(got, onceSlowly(l)) {
			t.Fatalf("Once of %v = %v", l, got)
		}
		if again := merge.Once(byKey, got); !slices.Equal(again, got) {
			t.Fatalf("Once of %v, again, = %v", l, again)
		}
	}
}

// P10.1: of merged lists Once leaves of each key the thing of the last list that has it.
func TestOnceOfMerged(t *testing.T) {
	r := rand.New(rand.NewSource(5))
	for range 500 {
		l := label(anySorted(r, 6, 10, 9)...)
		last := map[int]thing{}
		for _, list := range l {
			for _, x := range list {
				last[x.key] = x
			}
		}
		got := merge.Once(byKey, merge.All(byKey, l...))
		if len(got) != len(last) || !slices.IsSortedFunc(got, byKey) {
			t.Fatalf("of %v: %v", l, got)
		}
		for _, x := range got {
			if x != last[x.key] {
				t.Fatalf("of %v: %v", l, got)
			}
		}
	}
}

// P10.2: what is merged is sorted, and has just the things that the lists have.
func TestSortedAndJustTheThings(t *testing.T) {
	r := rand.New(rand.NewSource(6))
	for range 2000 {
		keys := anySorted(r, 9, 15, 1+r.Intn(40))
		l := label(keys...)
		for _, got := range [][]thing{merge.All(byKey, l...), collect(merge.Each(byKey, l...))} {
			if !slices.IsSortedFunc(got, byKey) || !sameThings(got, slices.Concat(l...)) {
				t.Fatalf("of %v: %v", l, got)
			}
		}
		if got := merge.Numbers(keys...); !slices.Equal(got, mergedSlowly(cmp.Compare[int], keys)) {
			t.Fatalf("Numbers of %v = %v", keys, got)
		}
		texts := textsOf(keys)
		if got := merge.Strings(texts...); !slices.Equal(got, mergedSlowly(strings.Compare, texts)) {
			t.Fatalf("Strings of %q = %q", texts, got)
		}
	}
}

// textsOf is sorted lists of texts of keys.
func textsOf(keys [][]int) [][]string {
	var out [][]string
	for _, l := range keys {
		var texts []string
		for _, key := range l {
			texts = append(texts, strings.Repeat(string([]byte{byte(255 - key%7)}), key%4))
		}
		slices.Sort(texts)
		out = append(out, texts)
	}
	return out
}

// spare is what stands behind the lists that are handed in.
const spare = -7

// roomy is l, each list with room behind it, in which numbers stand.
func roomy(l ...[]int) [][]int {
	var out [][]int
	for _, list := range l {
		long := append(slices.Clone(list), spare, spare, spare)
		out = append(out, long[:len(list)])
	}
	return out
}

// R4: what is handed in is not changed, its spare room neither.
func TestNothingIsChanged(t *testing.T) {
	keys := [][]int{{1, 1, 4}, {}, {1, 2, 9}, {9, 1, 0}}
	for i, call := range []func(l [][]int){
		func(l [][]int) { merge.Numbers(l...) },
		func(l [][]int) { merge.All(cmp.Compare[int], l...) },
		func(l [][]int) { collect(merge.Each(cmp.Compare[int], l...)) },
		func(l [][]int) {
			for _, list := range l {
				merge.Once(cmp.Compare[int], list)
			}
		},
	} {
		l := roomy(keys...)
		handed := slices.Clone(l)
		call(handed[:3])
		call(handed)
		for j := range l {
			if &handed[j][:1][0] != &l[j][:1][0] || len(handed[j]) != len(l[j]) {
				t.Errorf("call %d: another list stands at the place %d", i, j)
			}
			if !slices.Equal(l[j], keys[j]) || !slices.Equal(l[j][len(l[j]):len(l[j])+3], []int{spare, spare, spare}) {
				t.Errorf("call %d: the list %d is %v", i, j, l[j][:len(l[j])+3])
			}
		}
	}
}

// R4: what is answered shares no memory with what was handed in.
func TestAnswersAreNewMemory(t *testing.T) {
	for i, call := range []func(l [][]int) []int{
		func(l [][]int) []int { return merge.Numbers(l...) },
		func(l [][]int) []int { return merge.All(cmp.Compare[int], l...) },
		func(l [][]int) []int { return merge.Once(cmp.Compare[int], l[0]) },
	} {
		for _, keys := range [][][]int{{{1, 2, 3}}, {{1, 2, 3}, nil}, {{1, 2}, {3}}} {
			l := roomy(keys...)
			got := call(l)
			want := slices.Clone(got)
			l[0][0], l[0][1] = 50, 60
			if !slices.Equal(got, want) {
				t.Errorf("call %d of %v: the answer is %v, when the list is another one", i, keys, got)
			}
			l[0][0], l[0][1] = 1, 2
			for j := range got {
				got[j] = 70
			}
			_ = append(got, 80)
			if !slices.Equal(l[0], keys[0]) || l[0][:len(l[0])+1][len(l[0])] != spare {
				t.Errorf("call %d of %v: the list is %v, when the answer is another one", i, keys, l[0])
			}
		}
	}
	texts := []string{"a", "b"}
	got := merge.Strings(texts)
	texts[0] = "x"
	if !slices.Equal(got, []string{"a", "b"}) {
		t.Errorf("Strings: %q", got)
	}
}

// R4: what is told one by one hangs on the lists as they were handed in.
func TestNothingIsKept(t *testing.T) {
	l := [][]int{{1, 4, 5}, {2, 3}}
	each := merge.Each(cmp.Compare[int], l...)
	l[0][0], l[0][2] = 7, 0
	l[1] = nil
	want := []int{1, 2, 3, 4, 5}
	if got := collect(each); !slices.Equal(got, want) {
		t.Errorf("changed ahead: %v", got)
	}
	l = [][]int{{1, 4, 5}, {2, 3}}
	var got []int
	for x := range merge.Each(cmp.Compare[int], l...) {
		got = append(got, x)
		clear(l[0])
		l[0], l[1] = nil, append(l[1][:0], 9, 9)
	}
	if !slices.Equal(got, want) {
		t.Errorf("changed meanwhile: %v", got)
	}
}
