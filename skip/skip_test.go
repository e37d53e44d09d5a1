package skip_test

import (
	"cmp"
	"fmt"
	"iter"
	"maps"
	"math"
	"math/rand"
	"reflect"
	"slices"
	"strings"
	"testing"

	"duramen/api"
	"duramen/skip"
)

// pair is a key and its thing.
type pair struct {
	key   string
	thing int
}

// model is a list as the document's words tell it: each key's thing and level.
type model map[string]struct{ thing, level int }

// put is Put, by the document's words.
func (m model) put(key string, level, thing int) bool {
	if was, ok := m[key]; ok {
		was.thing = thing
		m[key] = was
		return false
	}
	if level < 1 {
		level = 1
	}
	if level > 8 {
		level = 8
	}
	m[key] = struct{ thing, level int }{thing, level}
	return true
}

// drop is Drop, by the document's words.
func (m model) drop(key string) bool {
	_, ok := m[key]
	delete(m, key)
	return ok
}

// row is Row, by the document's words.
func (m model) row(level int) []string {
	var l []string
	for _, k := range slices.Sorted(maps.Keys(m)) {
		if level >= 1 && level <= 8 && m[k].level >= level {
			l = append(l, k)
		}
	}
	return l
}

// from is From, by the document's words.
func (m model) from(key string) []pair {
	var l []pair
	for _, k := range slices.Sorted(maps.Keys(m)) {
		if k >= key {
			l = append(l, pair{k, m[k].thing})
		}
	}
	return l
}

// floor is Floor, by the document's words.
func (m model) floor(key string) (string, bool) {
	last, ok := "", false
	for _, k := range slices.Sorted(maps.Keys(m)) {
		if k <= key {
			last, ok = k, true
		}
	}
	return last, ok
}

// height is Height, by the document's words.
func (m model) height() int {
	height := 0
	for _, x := range m {
		height = max(height, x.level)
	}
	return height
}

// told is what a range over keys and things tells.
func told(s iter.Seq2[string, int]) []pair {
	var l []pair
	for k, v := range s {
		l = append(l, pair{k, v})
	}
	return l
}

// levels is numbers of rows at the edges, and beside them.
func levels() []int {
	return []int{math.MinInt, -9, -1, 0, 1, 2, 3, 4, 5, 6, 7, 8, 9, 10, 64, 1 << 32, math.MaxInt}
}

// check holds all that l tells against m, asked of each of keys.
func check(t *testing.T, l *skip.List[int], m model, keys []string) {
	t.Helper()
	if l.Len() != len(m) {
		t.Fatalf("%v: Len: %d", m, l.Len())
	}
	if l.Height() != m.height() {
		t.Fatalf("%v: Height: %d", m, l.Height())
	}
	for _, level := range levels() {
		if got := l.Row(level); !slices.Equal(got, m.row(level)) {
			t.Fatalf("%v: Row of %d: %q", m, level, got)
		}
	}
	for _, key := range keys {
		v, ok := l.Get(key)
		want, there := m[key]
		if ok != there || v != want.thing {
			t.Fatalf("%v: Get of %q: %d %v", m, key, v, ok)
		}
		if got := told(l.From(key)); !slices.Equal(got, m.from(key)) {
			t.Fatalf("%v: From of %q: %v", m, key, got)
		}
		k, ok := l.Floor(key)
		if last, there := m.floor(key); ok != there || k != last {
			t.Fatalf("%v: Floor of %q: %q %v", m, key, k, ok)
		}
	}
}

// some is the list that most tests ask: b d f h, of the levels 1 3 2 8.
func some() *skip.List[int] {
	l := skip.New[int]()
	for _, x := range []struct {
		key          string
		level, thing int
	}{{"f", 2, 60}, {"b", 1, 20}, {"h", 8, 80}, {"d", 3, 40}} {
		l.Put(x.key, x.level, x.thing)
	}
	return l
}

// P12.1, P12.2: the document's example.
func TestExample(t *testing.T) {
	l := skip.New[int]()
	if !l.Put("b", 1, 0) || !l.Put("a", 3, 0) {
		t.Error("Put of new keys")
	}
	for level, want := range map[int][]string{1: {"a", "b"}, 2: {"a"}, 3: {"a"}, 4: nil} {
		if got := l.Row(level); !slices.Equal(got, want) {
			t.Errorf("Row of %d: %q", level, got)
		}
	}
}

// P12.1, P12.2: a list without keys, a new one and one whose keys were dropped.
func TestNoKeys(t *testing.T) {
	empty := some()
	for _, k := range []string{"d", "h", "b", "f"} {
		if !empty.Drop(k) {
			t.Errorf("Drop of %q", k)
		}
	}
	for name, l := range map[string]*skip.List[int]{"new": skip.New[int](), "dropped": empty} {
		if l.Len() != 0 || l.Height() != 0 {
			t.Errorf("%s: Len %d, Height %d", name, l.Len(), l.Height())
		}
		for _, level := range levels() {
			if got := l.Row(level); len(got) != 0 {
				t.Errorf("%s: Row of %d: %q", name, level, got)
			}
		}
		for _, key := range []string{"", "\x00", "b", "d", "f", "h", "\xff\xff"} {
			if v, ok := l.Get(key); v != 0 || ok {
				t.Errorf("%s: Get of %q: %d %v", name, key, v, ok)
			}
			if l.Drop(key) {
				t.Errorf("%s: Drop of %q", name, key)
			}
			if got := told(l.From(key)); len(got) != 0 {
				t.Errorf("%s: From of %q: %v", name, key, got)
			}
			if k, ok := l.Floor(key); k != "" || ok {
				t.Errorf("%s: Floor of %q: %q %v", name, key, k, ok)
			}
		}
		if l.Len() != 0 {
			t.Errorf("%s: Len behind drops: %d", name, l.Len())
		}
	}
}

// P12.1, P12.2: two lists have nothing in common.
func TestTwoLists(t *testing.T) {
	a, b := skip.New[int](), skip.New[int]()
	a.Put("x", 4, 1)
	b.Put("y", 2, 2)
	if !slices.Equal(a.Row(1), []string{"x"}) || !slices.Equal(b.Row(1), []string{"y"}) || a.Height() != 4 || b.Height() != 2 {
		t.Error(a.Row(1), b.Row(1), a.Height(), b.Height())
	}
}

// P12.1: the level of a new key.
func TestPutLevels(t *testing.T) {
	for _, level := range levels() {
		want := level
		if level < 1 {
			want = 1
		}
		if level > 8 {
			want = 8
		}
		l := skip.New[int]()
		if !l.Put("k", level, 7) {
			t.Error("Put at", level)
		}
		if l.Height() != want || l.Len() != 1 {
			t.Errorf("Height of one at %d: %d", level, l.Height())
		}
		for row := -1; row <= 10; row++ {
			if got := l.Row(row); (len(got) == 1) != (1 <= row && row <= want) {
				t.Errorf("Row %d of one at %d: %q", row, level, got)
			}
		}
		if v, ok := l.Get("k"); v != 7 || !ok {
			t.Errorf("Get of one at %d: %d %v", level, v, ok)
		}
	}
}

// P12.1: Put of a key that is there gives it another thing, and leaves its level, whatever level is handed in.
func TestPutAgain(t *testing.T) {
	for _, first := range []int{1, 2, 5, 8} {
		for _, level := range levels() {
			l := skip.New[int]()
			l.Put("a", 2, 1)
			l.Put("k", first, 7)
			l.Put("z", 1, 2)
			if l.Put("k", level, 9) {
				t.Fatalf("Put of a key at %d, then at %d: true", first, level)
			}
			m := model{}
			m.put("a", 2, 1)
			m.put("k", first, 9)
			m.put("z", 1, 2)
			check(t, l, m, []string{"", "a", "k", "z"})
		}
	}
}

// P12.1: Drop of each key, and of keys that are not there.
func TestDrop(t *testing.T) {
	for _, k := range []string{"", "a", "b\x00", "c", "e", "g", "i", "B", "bb", "\xff"} {
		l := some()
		if l.Drop(k) || l.Len() != 4 || !slices.Equal(l.Row(1), []string{"b", "d", "f", "h"}) {
			t.Errorf("Drop of %q: %q", k, l.Row(1))
		}
	}
	for _, c := range []struct {
		key              string
		row1, row2, row3 []string
		height           int
	}{
		{"b", []string{"d", "f", "h"}, []string{"d", "f", "h"}, []string{"d", "h"}, 8},
		{"d", []string{"b", "f", "h"}, []string{"f", "h"}, []string{"h"}, 8},
		{"f", []string{"b", "d", "h"}, []string{"d", "h"}, []string{"d", "h"}, 8},
		{"h", []string{"b", "d", "f"}, []string{"d", "f"}, []string{"d"}, 3},
	} {
		l := some()
		if !l.Drop(c.key) || l.Drop(c.key) {
			t.Errorf("Drop of %q, twice", c.key)
		}
		if !slices.Equal(l.Row(1), c.row1) || !slices.Equal(l.Row(2), c.row2) || !slices.Equal(l.Row(3), c.row3) {
			t.Errorf("without %q: %q %q %q", c.key, l.Row(1), l.Row(2), l.Row(3))
		}
		if l.Height() != c.height || l.Len() != 3 {
			t.Errorf("without %q: Height %d, Len %d", c.key, l.Height(), l.Len())
		}
		if v, ok := l.Get(c.key); v != 0 || ok {
			t.Errorf("Get of %q, dropped: %d %v", c.key, v, ok)
		}
		if !l.Put(c.key, 5, 99) || !slices.Contains(l.Row(5), c.key) || slices.Contains(l.Row(6), c.key) {
			t.Errorf("%q put again: %q %q", c.key, l.Row(5), l.Row(6))
		}
		if v, ok := l.Get(c.key); v != 99 || !ok || l.Len() != 4 {
			t.Errorf("Get of %q, put again: %d %v", c.key, v, ok)
		}
	}
}

// P12.2: Get, Floor and From of keys that are there, between two, ahead of all, behind all.
func TestFind(t *testing.T) {
	l := some()
	for _, c := range []struct {
		key   string
		thing int
		there bool
		floor string
		any   bool
		from  []pair
	}{
		{"", 0, false, "", false, []pair{{"b", 20}, {"d", 40}, {"f", 60}, {"h", 80}}},
		{"a", 0, false, "", false, []pair{{"b", 20}, {"d", 40}, {"f", 60}, {"h", 80}}},
		{"a\xff", 0, false, "", false, []pair{{"b", 20}, {"d", 40}, {"f", 60}, {"h", 80}}},
		{"B", 0, false, "", false, []pair{{"b", 20}, {"d", 40}, {"f", 60}, {"h", 80}}},
		{"b", 20, true, "b", true, []pair{{"b", 20}, {"d", 40}, {"f", 60}, {"h", 80}}},
		{"b\x00", 0, false, "b", true, []pair{{"d", 40}, {"f", 60}, {"h", 80}}},
		{"c", 0, false, "b", true, []pair{{"d", 40}, {"f", 60}, {"h", 80}}},
		{"d", 40, true, "d", true, []pair{{"d", 40}, {"f", 60}, {"h", 80}}},
		{"e", 0, false, "d", true, []pair{{"f", 60}, {"h", 80}}},
		{"f", 60, true, "f", true, []pair{{"f", 60}, {"h", 80}}},
		{"g", 0, false, "f", true, []pair{{"h", 80}}},
		{"gz", 0, false, "f", true, []pair{{"h", 80}}},
		{"h", 80, true, "h", true, []pair{{"h", 80}}},
		{"h\x00", 0, false, "h", true, nil},
		{"i", 0, false, "h", true, nil},
		{"\xff", 0, false, "h", true, nil},
	} {
		if v, ok := l.Get(c.key); v != c.thing || ok != c.there {
			t.Errorf("Get of %q: %d %v", c.key, v, ok)
		}
		if k, ok := l.Floor(c.key); k != c.floor || ok != c.any {
			t.Errorf("Floor of %q: %q %v", c.key, k, ok)
		}
		if got := told(l.From(c.key)); !slices.Equal(got, c.from) {
			t.Errorf("From of %q: %v", c.key, got)
		}
	}
}

// P12.2: Row of each level.
func TestRow(t *testing.T) {
	l := some()
	for _, level := range levels() {
		var want []string
		switch {
		case level == 1:
			want = []string{"b", "d", "f", "h"}
		case level == 2:
			want = []string{"d", "f", "h"}
		case level == 3:
			want = []string{"d", "h"}
		case level >= 4 && level <= 8:
			want = []string{"h"}
		}
		if got := l.Row(level); !slices.Equal(got, want) {
			t.Errorf("Row of %d: %q", level, got)
		}
	}
}

// P12.1, P12.2: the empty text is a key as others are, and the first one.
func TestEmptyText(t *testing.T) {
	for _, level := range []int{1, 3, 8} {
		l := skip.New[int]()
		m := model{}
		keys := []string{"", "\x00", "a", "b"}
		for i, k := range []string{"a", "", "\x00"} {
			if !l.Put(k, level, i+5) {
				t.Errorf("Put of %q", k)
			}
			m.put(k, level, i+5)
			check(t, l, m, keys)
		}
		if l.Put("", 2, 77) {
			t.Error("Put of the empty text, again")
		}
		m.put("", 2, 77)
		check(t, l, m, keys)
		if !l.Drop("") || l.Drop("") {
			t.Error("Drop of the empty text, twice")
		}
		m.drop("")
		check(t, l, m, keys)
	}
	alone := skip.New[int]()
	alone.Put("", 1, 3)
	if k, ok := alone.Floor(""); k != "" || !ok {
		t.Error("Floor of the empty text that is alone:", ok)
	}
	if got := told(alone.From("")); !slices.Equal(got, []pair{{"", 3}}) {
		t.Error("From of the empty text that is alone:", got)
	}
}

// P12.2: keys are in order byte by byte, whatever they mean as runes, and are as long as they are.
func TestByteOrder(t *testing.T) {
	keys := []string{"", "\x00", "\x00\x00", "\x00\x01", "\x01", "A", "Z", "a", "a\x00", "aa", "ab", "b", "z", "\x7f", "\x80", "\xc3\xa9", "\xe2\x82\xac", "\xef\xbf\xbd", "\xf0\x9f\x98\x80", "\xff", "\xff\xfe", "\xff\xff", strings.Repeat("\xff", 1000), strings.Repeat("\xff", 1001)}
	mixed := slices.Clone(keys)
	for seed := range int64(20) {
		r := rand.New(rand.NewSource(seed))
		r.Shuffle(len(mixed), func(i, j int) { mixed[i], mixed[j] = mixed[j], mixed[i] })
		l, m := skip.New[int](), model{}
		for i, k := range mixed {
			level := 1 + r.Intn(8)
			l.Put(k, level, i)
			m.put(k, level, i)
		}
		if !slices.Equal(l.Row(1), keys) {
			t.Fatalf("%q", l.Row(1))
		}
		check(t, l, m, keys)
	}
}

// P12.2: From is ended anywhere, and begun again.
func TestFromEnded(t *testing.T) {
	l := some()
	s := l.From("c")
	for stop := 1; stop <= 3; stop++ {
		var got []string
		for k := range s {
			got = append(got, k)
			if len(got) == stop {
				break
			}
		}
		if !slices.Equal(got, []string{"d", "f", "h"}[:stop]) {
			t.Errorf("ended behind %d: %q", stop, got)
		}
	}
	if got := told(s); !slices.Equal(got, []pair{{"d", 40}, {"f", 60}, {"h", 80}}) {
		t.Error("begun again:", got)
	}
	if l.Len() != 4 || !slices.Equal(l.Row(1), []string{"b", "d", "f", "h"}) {
		t.Error("behind that:", l.Row(1))
	}
}

// P12.2: one From within another.
func TestFromWithinFrom(t *testing.T) {
	l := some()
	var got []string
	for a := range l.From("c") {
		for b := range l.From(a) {
			got = append(got, a+b)
		}
	}
	if !slices.Equal(got, []string{"dd", "df", "dh", "ff", "fh", "hh"}) {
		t.Error(got)
	}
}

// P12.2: who panics in the loop over From panics, and the list is as it was.
func TestFromPanics(t *testing.T) {
	l := some()
	func() {
		defer func() {
			if recover() != "mine" {
				t.Error("another panic")
			}
		}()
		for k := range l.From("") {
			if k == "d" {
				panic("mine")
			}
		}
	}()
	if got := told(l.From("")); len(got) != 4 {
		t.Error(got)
	}
}

// numbered is a list of the keys 10 to 10 + n - 1, in decimals, each its own thing.
func numbered(n int, level func(i int) int) (*skip.List[int], []string) {
	l := skip.New[int]()
	var keys []string
	for i := range n {
		k := fmt.Sprint(10 + i)
		l.Put(k, level(i), 10+i)
		keys = append(keys, k)
	}
	return l, keys
}

// P12.2, R1: what is changed while From tells may be told or not; what is not changed is told, in order, each key once, and the telling ends.
func TestFromMeanwhile(t *testing.T) {
	for seed := range int64(300) {
		r := rand.New(rand.NewSource(seed))
		n := 1 + r.Intn(20)
		l, keys := numbered(n, func(int) int { return 1 + r.Intn(9) })
		var got, touched []string
		for k, v := range l.From("") {
			if fmt.Sprint(v) != k && !slices.Contains(touched, k) {
				t.Fatalf("seed %d: %q has %d", seed, k, v)
			}
			got = append(got, k)
			for range r.Intn(6) {
				key := keys[r.Intn(n)]
				if r.Intn(3) == 0 {
					key = k
				}
				if r.Intn(5) == 0 {
					key += "x"
				}
				touched = append(touched, key)
				switch r.Intn(3) {
				case 0:
					l.Put(key, r.Intn(9), r.Intn(9))
				default:
					l.Drop(key)
				}
			}
			if len(got) > 1000 {
				t.Fatalf("seed %d: no end", seed)
			}
		}
		if !slices.IsSorted(got) || len(slices.Compact(slices.Clone(got))) != len(got) {
			t.Fatalf("seed %d: %q", seed, got)
		}
		for _, k := range keys {
			if !slices.Contains(touched, k) && !slices.Contains(got, k) {
				t.Fatalf("seed %d: %q of %q, changed %q, told %q", seed, k, keys, touched, got)
			}
		}
		for _, k := range got {
			if !slices.Contains(touched, k) && !slices.Contains(keys, k) {
				t.Fatalf("seed %d: %q was told", seed, k)
			}
		}
	}
}

// P12.2, R1: From ends, though at each key another one is put behind it, or it is dropped and put again.
func TestFromEnds(t *testing.T) {
	for name, with := range map[string]func(l *skip.List[int], k string){
		"put behind":             func(l *skip.List[int], k string) { l.Put(k+"x", 3, 0) },
		"put right behind":       func(l *skip.List[int], k string) { l.Put(k+"\x00", 1, 0) },
		"dropped and put again":  func(l *skip.List[int], k string) { l.Drop(k); l.Put(k, 2, 0) },
		"dropped, another put":   func(l *skip.List[int], k string) { l.Drop(k); l.Put(k+"x", 1, 0) },
		"put behind and dropped": func(l *skip.List[int], k string) { l.Put(k+"x", 8, 0); l.Drop(k) },
		"put ahead":              func(l *skip.List[int], k string) { l.Put("0"+k, 8, 0) },
		"put again":              func(l *skip.List[int], k string) { l.Put(k, 8, 0) },
		"dropped":                func(l *skip.List[int], k string) { l.Drop(k) },
	} {
		l, keys := numbered(9, func(i int) int { return i })
		var got []string
		for k := range l.From("") {
			if with(l, k); slices.Contains(keys, k) {
				got = append(got, k)
			}
			if len(got) > 100 || l.Len() > 1000 {
				t.Fatalf("%s: no end", name)
			}
		}
		if !slices.Equal(got, keys) {
			t.Errorf("%s: %q", name, got)
		}
	}
}

// P12.2: a key that is dropped, and one behind it too, while the first is told: what is told is there.
func TestFromTellsWhatIsThere(t *testing.T) {
	l, _ := numbered(6, func(i int) int { return 1 + i%3 })
	var got []string
	for k := range l.From("11") {
		if _, ok := l.Get(k); !ok {
			t.Errorf("%q is told and not there", k)
		}
		got = append(got, k)
		if k == "11" {
			l.Drop("11")
			l.Drop("12")
			l.Drop("13")
		}
	}
	if !slices.Equal(got, []string{"11", "14", "15"}) {
		t.Error(got)
	}
}

// P12.1, P12.2, P12.3: all small lists: each row of keys of all levels at the edges, put in each order, each one dropped.
func TestAllSmallLists(t *testing.T) {
	keys := []string{"", "a", "aa", "b"}
	asked := []string{"", "\x00", "a", "a\x00", "aa", "ab", "b", "c"}
	at := []int{0, 1, 2, 8, 9}
	for code := range 4 * 4 * 4 * 5 * 5 * 5 {
		l, m := skip.New[int](), model{}
		rest := code
		for step := range 3 {
			key := keys[rest%4]
			rest /= 4
			level := at[rest%5]
			rest /= 5
			if l.Put(key, level, step) != m.put(key, level, step) {
				t.Fatal(code, "put", step)
			}
		}
		check(t, l, m, asked)
		checkRows(t, l)
		drop := keys[code%4]
		if l.Drop(drop) != m.drop(drop) {
			t.Fatal(code, "drop")
		}
		check(t, l, m, asked)
		checkRows(t, l)
	}
}

// checkRows tests that each row is a part of the one below it, of which the first is all keys.
func checkRows(t *testing.T, l *skip.List[int]) {
	t.Helper()
	if len(l.Row(1)) != l.Len() {
		t.Fatal("the first row is not all:", l.Row(1), l.Len())
	}
	for level := 2; level <= 8; level++ {
		below := l.Row(level - 1)
		for _, k := range l.Row(level) {
			place := slices.Index(below, k)
			if place < 0 {
				t.Fatalf("%q stands in the row %d, not in the one below it", k, level)
			}
			below = below[place+1:]
		}
		if (len(l.Row(level)) > 0) != (l.Height() >= level) {
			t.Fatalf("Height %d, row %d: %q", l.Height(), level, l.Row(level))
		}
	}
}

// P12.1, P12.2, P12.3: many puts and drops, one after the other.
func TestManySteps(t *testing.T) {
	for seed := range int64(30) {
		r := rand.New(rand.NewSource(seed))
		var keys []string
		for range 3 + r.Intn(30) {
			b := make([]byte, r.Intn(4))
			for i := range b {
				b[i] = "\x00ab\xff"[r.Intn(4)]
			}
			keys = append(keys, string(b))
		}
		l, m := skip.New[int](), model{}
		for step := range 200 {
			key, level := keys[r.Intn(len(keys))], r.Intn(11)-1
			if r.Intn(5) < 3 {
				if got := l.Put(key, level, step); got != m.put(key, level, step) {
					t.Fatal(seed, step, key, got)
				}
			} else if got := l.Drop(key); got != m.drop(key) {
				t.Fatal(seed, step, key, got)
			}
			check(t, l, m, keys)
			checkRows(t, l)
		}
	}
}

// P12.1, P12.2: many keys.
func TestManyKeys(t *testing.T) {
	r := rand.New(rand.NewSource(1))
	l, m := skip.New[int](), model{}
	var keys []string
	for i := range 3000 {
		k := fmt.Sprintf("%07d", r.Intn(1<<20))
		level := 1
		for level < 8 && r.Intn(2) == 0 {
			level++
		}
		if l.Put(k, level, i) != m.put(k, level, i) {
			t.Fatal(k)
		}
		keys = append(keys, k)
	}
	check(t, l, m, keys[:20])
	checkRows(t, l)
	for _, k := range keys[:2000] {
		if l.Drop(k) != m.drop(k) {
			t.Fatal(k)
		}
	}
	check(t, l, m, keys[1990:2010])
	checkRows(t, l)
}

// kept tests a list of the things a and b, unlike one another, of any type.
func kept[V any](t *testing.T, name string, a, b V) {
	t.Helper()
	l := skip.New[V]()
	var none V
	if v, ok := l.Get("k"); !reflect.DeepEqual(v, none) || ok {
		t.Error(name, "none:", v, ok)
	}
	l.Put("k", 2, a)
	l.Put("l", 1, b)
	if v, ok := l.Get("k"); !reflect.DeepEqual(v, a) || !ok {
		t.Error(name, "the first one:", v, ok)
	}
	if l.Put("k", 2, b) {
		t.Error(name, "put again")
	}
	if v, ok := l.Get("k"); !reflect.DeepEqual(v, b) || !ok {
		t.Error(name, "put again:", v, ok)
	}
	n := 0
	for k, v := range l.From("") {
		if n++; !reflect.DeepEqual(v, b) {
			t.Error(name, k, v)
		}
	}
	if n != 2 || !l.Drop("k") || !l.Drop("l") {
		t.Error(name, n)
	}
	if v, ok := l.Get("k"); !reflect.DeepEqual(v, none) || ok {
		t.Error(name, "dropped:", v, ok)
	}
}

// P12.1, P12.2: lists of things of any type.
func TestThings(t *testing.T) {
	kept(t, "number", 3, -4)
	kept(t, "small number", uint8(3), uint8(255))
	kept(t, "text", "a", "bc")
	kept(t, "bool", true, true)
	kept(t, "nothing", struct{}{}, struct{}{})
	kept(t, "float", 0.5, math.Inf(1))
	kept(t, "complex", complex(1, 2), complex(3, 4))
	kept(t, "versions", []api.Version{{Key: "a"}}, []api.Version{{Key: "b"}, {Gone: true}})
	kept(t, "no versions", []api.Version{{Key: "a"}}, []api.Version(nil))
	kept(t, "version", api.Version{Key: "a"}, api.Version{Value: "x"})
	kept(t, "array", [3]int{1, 2, 3}, [3]int{4})
	kept(t, "map", map[string]int{"a": 1}, map[string]int{"b": 2})
	kept(t, "pointer", &pair{"a", 1}, &pair{"b", 2})
	kept[any](t, "anything", 3, "x")
	kept[any](t, "nothing in anything", []int{1}, nil)
	kept[error](t, "error", api.ErrArg, api.ErrFull)
	kept(t, "list", skip.New[int](), some())
	kept(t, "list of lists", []*skip.List[string]{skip.New[string]()}, nil)
}

// P12.2: a list of functions, whose things are called.
func TestFunctions(t *testing.T) {
	l := skip.New[func(a, b int) int]()
	if f, ok := l.Get("min"); f != nil || ok {
		t.Error("none:", ok)
	}
	l.Put("min", 1, func(a, b int) int { return min(a, b) })
	l.Put("compare", 1, cmp.Compare[int])
	var got []int
	for _, f := range l.From("") {
		got = append(got, f(7, 3))
	}
	if !slices.Equal(got, []int{1, 3}) {
		t.Error(got)
	}
}

// P12.2, R4: what Row answers is new memory.
func TestAnswersAreNewMemory(t *testing.T) {
	l := some()
	for level := 1; level <= 8; level++ {
		want := l.Row(level)
		got := l.Row(level)
		for i := range got {
			got[i] = "spoilt"
		}
		_ = append(got[:0], "spoilt", "spoilt", "spoilt", "spoilt")
		if !slices.Equal(l.Row(level), want) {
			t.Errorf("Row of %d: %q", level, l.Row(level))
		}
	}
	if got := told(l.From("")); !slices.Equal(got, []pair{{"b", 20}, {"d", 40}, {"f", 60}, {"h", 80}}) {
		t.Error(got)
	}
}

// P12.2: what only tells changes nothing.
func TestTellingChangesNothing(t *testing.T) {
	l, m := some(), model{}
	for k, level := range map[string]int{"b": 1, "d": 3, "f": 2, "h": 8} {
		m.put(k, level, int(k[0]-'a'+1)*10)
	}
	for range 3 {
		check(t, l, m, []string{"", "a", "b", "c", "d", "e", "f", "g", "h", "i"})
	}
}

// P12.2, R5: what is told hangs on no row in which keys were put, and on none that are dropped, but for the levels.
func TestOrderOfPuts(t *testing.T) {
	keys := []string{"a", "b", "c", "d"}
	level := map[string]int{"a": 2, "b": 1, "c": 8, "d": 3}
	for code := range 256 {
		l := skip.New[int]()
		rest := code
		for range 4 {
			k := keys[rest%4]
			l.Put(k, level[k], 0)
			l.Put(k+"x", rest, 0)
			rest /= 4
		}
		for _, k := range keys {
			l.Drop(k + "x")
			l.Put(k, level[k], int(k[0]))
		}
		m := model{}
		for _, k := range keys {
			m.put(k, level[k], int(k[0]))
		}
		check(t, l, m, []string{"", "a", "ax", "b", "bx", "c", "cx", "d", "dx"})
	}
}
