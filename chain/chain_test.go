package chain_test

import (
	"cmp"
	"fmt"
	"maps"
	"math"
	"math/rand"
	"reflect"
	"slices"
	"strings"
	"testing"

	"duramen/api"
	"duramen/chain"
	"duramen/order"
)

// key is the key of a table and a text.
func key(t *testing.T, table int, text string) string {
	t.Helper()
	k, e := order.Key(table, text)
	if e != api.OK {
		t.Fatalf("no key: %d %q", table, text)
	}
	return k
}

// version is one of a key, of a branch, an epoch, a number, from a time to another one.
func version(k string, branch, epoch, seq, from, to int, value string) api.Version {
	return api.Version{
		Key: k, At: api.Stamp{Branch: branch, Epoch: epoch, Seq: seq}, Span: api.Span{From: from, To: to}, Value: value,
	}
}

// rank is what a version's place in the order hangs on, as the document names it.
type rank struct {
	key                      string
	branch, epoch, seq, from int
}

func rankOf(v api.Version) rank {
	return rank{v.Key, v.At.Branch, v.At.Epoch, v.At.Seq, v.Span.From}
}

// before is the order of versions, by the document's words.
func before(a, b api.Version) int {
	x, y := rankOf(a), rankOf(b)
	return cmp.Or(strings.Compare(x.key, y.key), cmp.Compare(x.branch, y.branch), cmp.Compare(x.epoch, y.epoch),
		cmp.Compare(x.seq, y.seq), cmp.Compare(x.from, y.from))
}

// model is an index as the document's words tell it: its versions, and the level that each key was put with first.
type model struct {
	versions map[rank]api.Version
	levels   map[string]int
}

func newModel() model {
	return model{map[rank]api.Version{}, map[string]int{}}
}

// add is Add of a version that may be, by the document's words.
func (m model) add(v api.Version, level int) api.Errno {
	if _, ok := m.versions[rankOf(v)]; ok {
		return api.ErrExist
	}
	m.versions[rankOf(v)] = v
	if _, ok := m.levels[v.Key]; !ok {
		m.levels[v.Key] = max(1, min(level, 8))
	}
	return api.OK
}

// those is the versions of which is holds, in order.
func (m model) those(is func(v api.Version) bool) []api.Version {
	var l []api.Version
	for _, v := range m.versions {
		if is(v) {
			l = append(l, v)
		}
	}
	slices.SortFunc(l, before)
	return l
}

// all is All, by the document's words.
func (m model) all() []api.Version {
	return m.those(func(api.Version) bool { return true })
}

// keep is Keep, by the document's words.
func (m model) keep(is func(v api.Version) bool) []api.Version {
	others := m.those(func(v api.Version) bool { return !is(v) })
	for _, v := range others {
		delete(m.versions, rankOf(v))
	}
	for k := range m.levels {
		if len(m.those(func(v api.Version) bool { return v.Key == k })) == 0 {
			delete(m.levels, k)
		}
	}
	return others
}

// height is Height, by the document's words.
func (m model) height() int {
	height := 0
	for _, level := range m.levels {
		height = max(height, level)
	}
	return height
}

// check holds all that x tells against m, asked of each of asked, which are any texts.
func check(t *testing.T, x *chain.Index, m model, asked []string) {
	t.Helper()
	if x.Len() != len(m.versions) {
		t.Fatalf("Len: %d of %d", x.Len(), len(m.versions))
	}
	if x.Height() != m.height() {
		t.Fatalf("Height: %d, not %d", x.Height(), m.height())
	}
	if got, want := x.Keys(), slices.Sorted(maps.Keys(m.levels)); !slices.Equal(got, want) {
		t.Fatalf("Keys: %q, not %q", got, want)
	}
	if got, want := x.All(), m.all(); !slices.Equal(got, want) {
		t.Fatalf("All: %v, not %v", got, want)
	}
	for _, from := range asked {
		if got, want := x.Of(from), m.those(func(v api.Version) bool { return v.Key == from }); !slices.Equal(got, want) {
			t.Fatalf("Of %q: %v, not %v", from, got, want)
		}
		for _, to := range asked {
			want := m.those(func(v api.Version) bool { return v.Key >= from && v.Key < to })
			if got := x.Range(from, to); !slices.Equal(got, want) {
				t.Fatalf("Range of %q to %q: %v, not %v", from, to, got, want)
			}
		}
	}
}

// edges is the texts of keys, what stands right ahead of each and right behind it, and the ends of all texts.
func edges(keys ...string) []string {
	l := []string{"", "\x00", "\xff\xff\xff"}
	for _, k := range keys {
		l = append(l, k, k+"\x00")
		if k != "" {
			l = append(l, k[:len(k)-1], k[:len(k)-1]+string([]byte{k[len(k)-1] - 1})+"\xff")
		}
	}
	return l
}

// some is what most tests begin with: three keys b d f, of 2, 3 and 1 versions, put from behind, of the levels 3 1 2.
func some(t *testing.T) (x *chain.Index, l []api.Version, b, d, f string) {
	t.Helper()
	b, d, f = key(t, 1, "b"), key(t, 1, "d"), key(t, 1, "f")
	l = []api.Version{
		version(b, 0, 1, 1, 0, 9, "b1"),
		version(b, 0, 2, 1, 0, 9, "b2"),
		version(d, 0, 1, 2, 0, 5, "d1"),
		version(d, 0, 1, 2, 5, 9, "d2"),
		version(d, 1, 1, 1, 0, 9, "d3"),
		version(f, 2, 7, 7, 3, 4, "f1"),
	}
	x = chain.New()
	level := map[string]int{b: 3, d: 1, f: 2}
	for _, v := range slices.Backward(l) {
		if e := x.Add(v, level[v.Key]); e != api.OK {
			t.Fatal(v, e)
		}
	}
	return x, l, b, d, f
}

// P13.1, P13.2: the document's example.
func TestExample(t *testing.T) {
	k := key(t, 1, "ab")
	v, w := version(k, 0, 1, 2, 5, 7, "v"), version(k, 0, 3, 1, 5, 7, "w")
	for _, l := range [][]api.Version{{v, w}, {w, v}} {
		x := chain.New()
		for _, y := range l {
			if e := x.Add(y, 1); e != api.OK {
				t.Error(e)
			}
		}
		if got := x.Of(k); !slices.Equal(got, []api.Version{v, w}) {
			t.Error(got)
		}
		if got := x.Keys(); !slices.Equal(got, []string{k}) || x.Len() != 2 {
			t.Error(got, x.Len())
		}
	}
}

// P13.1, P13.2, P13.3: an index without versions, a new one and one of which Keep has left none.
func TestNoVersions(t *testing.T) {
	left, l, b, _, _ := some(t)
	if got := left.Keep(func(api.Version) bool { return false }); !slices.Equal(got, l) {
		t.Error("Keep of none:", got)
	}
	refused := chain.New()
	refused.Add(api.Version{}, 4)
	for name, x := range map[string]*chain.Index{"new": chain.New(), "left": left, "refused": refused} {
		if x == nil {
			t.Fatal(name, "is nil")
		}
		check(t, x, newModel(), edges(b))
		asked := 0
		got := x.Keep(func(api.Version) bool { asked++; return true })
		if len(got) != 0 || asked != 0 {
			t.Errorf("%s: Keep: %v, asked %d times", name, got, asked)
		}
		check(t, x, newModel(), edges(b))
	}
}

// P13.1: two indexes have nothing in common.
func TestTwoIndexes(t *testing.T) {
	x, y := chain.New(), chain.New()
	v, w := version(key(t, 0, "v"), 0, 1, 1, 0, 1, ""), version(key(t, 0, "w"), 0, 1, 1, 0, 1, "")
	x.Add(v, 2)
	y.Add(w, 5)
	if !slices.Equal(x.All(), []api.Version{v}) || !slices.Equal(y.All(), []api.Version{w}) || x.Height() != 2 || y.Height() != 5 {
		t.Error(x.All(), y.All(), x.Height(), y.Height())
	}
}

// P13.1: a version that may not be is ErrArg, in an index without versions, in one with others, and in one where one alike is; it changes nothing.
func TestMayNotBe(t *testing.T) {
	good := version(key(t, 1, "d"), 0, 1, 2, 0, 5, "d1")
	wrong := map[string]func(v *api.Version){
		"zero":            func(v *api.Version) { *v = api.Version{} },
		"empty key":       func(v *api.Version) { v.Key = "" },
		"no key":          func(v *api.Version) { v.Key = "d" },
		"key and more":    func(v *api.Version) { v.Key += "\x00" },
		"key cut":         func(v *api.Version) { v.Key = v.Key[:len(v.Key)-1] },
		"branch below":    func(v *api.Version) { v.At.Branch = -1 },
		"branch above":    func(v *api.Version) { v.At.Branch = 16 },
		"epoch 0":         func(v *api.Version) { v.At.Epoch = 0 },
		"epoch above":     func(v *api.Version) { v.At.Epoch = 10001 },
		"seq 0":           func(v *api.Version) { v.At.Seq = 0 },
		"seq above":       func(v *api.Version) { v.At.Seq = 100001 },
		"from below":      func(v *api.Version) { v.Span.From = -1 },
		"no span":         func(v *api.Version) { v.Span.To = v.Span.From },
		"span turned":     func(v *api.Version) { v.Span = api.Span{From: 5, To: 0} },
		"to above":        func(v *api.Version) { v.Span.To = 1<<40 + 1 },
		"value too long":  func(v *api.Version) { v.Value = strings.Repeat("x", 201) },
		"gone with value": func(v *api.Version) { v.Gone = true },
		"alike, too long": func(v *api.Version) { v.Value = strings.Repeat("y", 1000) },
		"least":           func(v *api.Version) { v.At = api.Stamp{Branch: math.MinInt, Epoch: math.MinInt, Seq: math.MinInt} },
		"most":            func(v *api.Version) { v.At = api.Stamp{Branch: math.MaxInt, Epoch: math.MaxInt, Seq: math.MaxInt} },
	}
	for name, spoil := range wrong {
		v := good
		spoil(&v)
		x := chain.New()
		if e := x.Add(v, 3); e != api.ErrArg {
			t.Errorf("%s, alone: %v", name, e)
		}
		check(t, x, newModel(), edges(v.Key, good.Key))
		x, l, b, d, f := some(t)
		if e := x.Add(v, 8); e != api.ErrArg {
			t.Errorf("%s, among others: %v", name, e)
		}
		if !slices.Equal(x.All(), l) || x.Len() != 6 || x.Height() != 3 || !slices.Equal(x.Keys(), []string{b, d, f}) {
			t.Errorf("%s: %v", name, x.All())
		}
	}
}

// P13.1: versions at the ends of what may be are put.
func TestMayBe(t *testing.T) {
	long := strings.Repeat("\xff", 40)
	l := []api.Version{
		version(key(t, 0, ""), 0, 1, 1, 0, 1, ""),
		version(key(t, 0, ""), 15, 10000, 100000, 1<<40-1, 1<<40, strings.Repeat("v", 200)),
		version(key(t, 3, long), 0, 1, 1, 0, 1<<40, "\x00"),
		{Key: key(t, 3, long), At: api.Stamp{Branch: 15, Epoch: 1, Seq: 1}, Span: api.Span{From: 0, To: 1}, Gone: true},
	}
	x, m := chain.New(), newModel()
	for _, v := range l {
		if e := x.Add(v, 1); e != api.OK {
			t.Errorf("%v: %v", v, e)
		}
		m.add(v, 1)
		check(t, x, m, edges(key(t, 0, ""), key(t, 3, long)))
	}
	if !slices.Equal(x.All(), l) {
		t.Error(x.All())
	}
}

// P13.1: one that is alike in the order to one that is there is ErrExist, whatever its value, its Gone, its To and the level are; the one that is there stays.
func TestAlike(t *testing.T) {
	x, l, _, _, _ := some(t)
	for i, v := range l {
		for name, change := range map[string]func(v *api.Version){
			"the same":      func(*api.Version) {},
			"another value": func(v *api.Version) { v.Value += "!" },
			"no value":      func(v *api.Version) { v.Value = "" },
			"gone":          func(v *api.Version) { v.Value, v.Gone = "", true },
			"another To":    func(v *api.Version) { v.Span.To += 3 },
		} {
			for _, level := range []int{-1, 1, 8, 9} {
				w := v
				change(&w)
				if e := x.Add(w, level); e != api.ErrExist {
					t.Errorf("%d, %s, at %d: %v", i, name, level, e)
				}
			}
			if !slices.Equal(x.All(), l) || x.Len() != 6 || x.Height() != 3 {
				t.Errorf("%d, %s: %v", i, name, x.All())
			}
		}
	}
}

// P13.1: one that differs in one of the things of the order alone is put, where the order tells.
func TestDiffers(t *testing.T) {
	k := key(t, 1, "k")
	v := version(k, 5, 50, 500, 5000, 9000, "v")
	for _, c := range []struct {
		w      api.Version
		behind bool
	}{
		{version(key(t, 1, "j"), 9, 99, 999, 8000, 9000, "w"), false},
		{version(key(t, 1, "l"), 0, 1, 1, 0, 9000, "w"), true},
		{version(key(t, 0, "z"), 9, 99, 999, 8000, 9000, "w"), false},
		{version(k, 4, 99, 999, 8000, 9000, "w"), false},
		{version(k, 6, 1, 1, 0, 9000, "w"), true},
		{version(k, 5, 49, 999, 8000, 9000, "w"), false},
		{version(k, 5, 51, 1, 0, 9000, "w"), true},
		{version(k, 5, 50, 499, 8000, 9000, "w"), false},
		{version(k, 5, 50, 501, 0, 9000, "w"), true},
		{version(k, 5, 50, 500, 4999, 9000, "w"), false},
		{version(k, 5, 50, 500, 5001, 9000, "w"), true},
	} {
		want := []api.Version{c.w, v}
		if c.behind {
			want = []api.Version{v, c.w}
		}
		x, y := chain.New(), chain.New()
		if x.Add(v, 1) != api.OK || x.Add(c.w, 1) != api.OK || y.Add(c.w, 1) != api.OK || y.Add(v, 1) != api.OK {
			t.Errorf("%v was not put", c.w)
		}
		if !slices.Equal(x.All(), want) || !slices.Equal(y.All(), want) {
			t.Errorf("%v: %v %v", c.w, x.All(), y.All())
		}
	}
}

// P13.1, P13.2: the level of a new key; those of other keys stay.
func TestLevels(t *testing.T) {
	for _, level := range []int{math.MinInt, -9, -1, 0, 1, 2, 3, 4, 5, 6, 7, 8, 9, 10, 64, 1 << 32, math.MaxInt} {
		want := max(1, min(level, 8))
		x := chain.New()
		v := version(key(t, 1, "k"), 0, 1, 1, 0, 1, "v")
		if e := x.Add(v, level); e != api.OK {
			t.Errorf("Add at %d: %v", level, e)
		}
		if x.Height() != want || !slices.Equal(x.All(), []api.Version{v}) {
			t.Errorf("Height of one at %d: %d", level, x.Height())
		}
		y, l, b, d, f := some(t)
		z := version(key(t, 1, "c"), 0, 1, 1, 0, 1, "v")
		if e := y.Add(z, level); e != api.OK || y.Height() != max(3, want) || y.Len() != 7 {
			t.Errorf("Add at %d among others: %v, Height %d", level, e, y.Height())
		}
		if !slices.Equal(y.Keys(), []string{b, z.Key, d, f}) || !slices.Equal(y.All(), slices.Insert(slices.Clone(l), 2, z)) {
			t.Errorf("All, with one at %d: %v", level, y.All())
		}
	}
}

// P13.1: a key that is there stays at its level, with whatever level more of its versions are put.
func TestLevelStays(t *testing.T) {
	k := key(t, 1, "k")
	for first := 1; first <= 8; first++ {
		x := chain.New()
		x.Add(version(k, 0, 5, 1, 0, 1, ""), first)
		for i, level := range []int{-1, 0, 1, 2, 3, 7, 8, 9, math.MaxInt} {
			if e := x.Add(version(k, 0, 1+i%2*8, 10+i, 0, 1, ""), level); e != api.OK || x.Height() != first {
				t.Errorf("of %d, put at %d: %v, Height %d", first, level, e, x.Height())
			}
		}
		if x.Len() != 10 || len(x.Keys()) != 1 {
			t.Error(x.Len(), x.Keys())
		}
	}
}

// P13.2: Of each key, and of texts that are no keys of it.
func TestOf(t *testing.T) {
	x, l, b, d, f := some(t)
	for k, want := range map[string][]api.Version{
		b: l[:2], d: l[2:5], f: l[5:], "": nil, "b": nil, "\x00": nil, "\xff": nil, b + "\x00": nil, d[:len(d)-1]: nil,
		key(t, 1, ""): nil, key(t, 1, "c"): nil, key(t, 1, "a"): nil, key(t, 1, "g"): nil, key(t, 0, "d"): nil, key(t, 2, "d"): nil,
		strings.Repeat("x", 1000): nil,
	} {
		if got := x.Of(k); !slices.Equal(got, want) {
			t.Errorf("Of %q: %v", k, got)
		}
	}
}

// P13.2: Range whose ends are keys, lie between two, are the same, stand the other way round, or are no keys.
func TestRange(t *testing.T) {
	x, l, b, d, f := some(t)
	a, c, e, g := key(t, 1, "a"), key(t, 1, "c"), key(t, 1, "e"), key(t, 1, "g")
	for _, r := range []struct {
		from, to string
		want     []api.Version
	}{
		{b, d, l[:2]}, {b, f, l[:5]}, {d, f, l[2:5]}, // keys
		{a, c, l[:2]}, {c, e, l[2:5]}, {a, g, l}, {e, g, l[5:]}, {c, d, nil}, // between two
		{b, b, nil}, {d, d, nil}, {c, c, nil}, {"", "", nil}, {g, g, nil}, // the same
		{d, b, nil}, {f, b, nil}, {g, a, nil}, {e, c, nil}, {b, "", nil}, // the other way round
		{"", "\xff", l}, {"", b, nil}, {"", b + "\x00", l[:2]}, {b + "\x00", "\xff", l[2:]}, {f, "\xff", l[5:]}, {f + "\x00", "\xff", nil},
		{b, d + "\x00", l[:5]}, {b[:1], f, l[:5]}, {g, "\xff\xff", nil}, {"", a, nil}, {"\xff", "\xff\xff", nil},
	} {
		if got := x.Range(r.from, r.to); !slices.Equal(got, r.want) {
			t.Errorf("Range of %q to %q: %v", r.from, r.to, got)
		}
	}
}

// P13.2: keys are told in their order, of tables, too, with the key of the empty text, which is as others are.
func TestKeys(t *testing.T) {
	var keys []string
	for _, table := range []int{0, 1, 3} {
		for _, text := range []string{"", "\x00", "\x00\x00", "a", "a\x00", "ab", "b", "\xc3\xa9", "\xff", "\xff\xff"} {
			keys = append(keys, key(t, table, text))
		}
	}
	if !slices.IsSorted(keys) {
		t.Fatal("keys are not in order")
	}
	for seed := range int64(20) {
		r := rand.New(rand.NewSource(seed))
		x, m := chain.New(), newModel()
		for _, i := range r.Perm(len(keys)) {
			v, level := version(keys[i], 0, 1, 1, 0, 1, ""), r.Intn(10)
			if e := x.Add(v, level); e != api.OK {
				t.Fatal(keys[i], e)
			}
			m.add(v, level)
		}
		if got := x.Keys(); !slices.Equal(got, keys) {
			t.Fatalf("%q", got)
		}
		check(t, x, m, append(keys, "", "\xff"))
	}
}

// P13.1, P13.2, P13.3: the empty text is no key of chapter 1, but may be asked for; the key of the empty text of a table is one.
func TestEmptyText(t *testing.T) {
	k := key(t, 0, "")
	v := version(k, 0, 1, 1, 0, 1, "v")
	x := chain.New()
	none := v
	none.Key = ""
	if e := x.Add(none, 1); e != api.ErrArg {
		t.Error("Add of the empty text:", e)
	}
	if e := x.Add(v, 1); e != api.OK {
		t.Error(e)
	}
	if len(x.Of("")) != 0 || len(x.Range("", "")) != 0 || len(x.Range("", k)) != 0 || len(x.Range(k, "")) != 0 {
		t.Error(x.Of(""), x.Range("", ""))
	}
	if got := x.Range("", k+"\x00"); !slices.Equal(got, []api.Version{v}) {
		t.Error(got)
	}
	if got := x.Of(k); !slices.Equal(got, []api.Version{v}) || !slices.Equal(x.Keys(), []string{k}) {
		t.Error(got, x.Keys())
	}
	if got := x.Keep(func(v api.Version) bool { return v.Key != k }); !slices.Equal(got, []api.Version{v}) || x.Len() != 0 || len(x.Keys()) != 0 {
		t.Error(got, x.Len())
	}
}

// P13.3: Keep of all, of none, of some of a key's versions, of all of a key's; each version is asked for once, in order.
func TestKeep(t *testing.T) {
	_, l, b, d, f := some(t)
	for mask := range 1 << len(l) {
		x, _, _, _, _ := some(t)
		m := newModel()
		for i, v := range l {
			m.add(v, []int{3, 3, 1, 1, 1, 2}[i])
		}
		is := func(v api.Version) bool { return mask>>slices.Index(l, v)&1 == 1 }
		var asked []api.Version
		got := x.Keep(func(v api.Version) bool { asked = append(asked, v); return is(v) })
		if want := m.keep(is); !slices.Equal(got, want) {
			t.Fatalf("Keep of %b: %v, not %v", mask, got, want)
		}
		if !slices.Equal(asked, l) {
			t.Fatalf("Keep of %b: asked %v", mask, asked)
		}
		check(t, x, m, []string{"", b, d, f, key(t, 1, "c"), "\xff"})
		if again := x.Keep(is); len(again) != 0 {
			t.Fatalf("Keep of %b, again: %v", mask, again)
		}
		check(t, x, m, []string{b, d, f})
	}
}

// P13.3: what Keep has taken can be put again, and other versions in its place; a key that was left without versions is a new one then, with the level that it is put with.
func TestPutAgain(t *testing.T) {
	x, l, b, d, f := some(t)
	m := newModel()
	for i, v := range l {
		m.add(v, []int{3, 3, 1, 1, 1, 2}[i])
	}
	is := func(v api.Version) bool { return v.Key != b && v.Value != "d2" }
	x.Keep(is)
	m.keep(is)
	if x.Height() != 2 || !slices.Equal(x.Keys(), []string{d, f}) || len(x.Of(b)) != 0 {
		t.Error(x.Height(), x.Keys(), x.Of(b))
	}
	other := l[3]
	other.Value = "another"
	for _, c := range []struct {
		v     api.Version
		level int
		want  api.Errno
	}{{l[1], 5, api.OK}, {l[0], 8, api.OK}, {l[1], 7, api.ErrExist}, {other, 8, api.OK}, {l[3], 8, api.ErrExist}} {
		if e := x.Add(c.v, c.level); e != c.want || m.add(c.v, c.level) != c.want {
			t.Errorf("%v: %v", c.v, e)
		}
		check(t, x, m, edges(b, d, f))
	}
	if x.Height() != 5 {
		t.Error("Height:", x.Height())
	}
}

// P13.3: is may look at the index: it finds it as it was ahead of the call.
func TestKeepLooks(t *testing.T) {
	x, l, b, d, _ := some(t)
	got := x.Keep(func(v api.Version) bool {
		if !slices.Equal(x.All(), l) || x.Len() != 6 || x.Height() != 3 || !slices.Equal(x.Of(b), l[:2]) {
			t.Errorf("at %v: %v", v, x.All())
		}
		return v.Key == d
	})
	if !slices.Equal(got, []api.Version{l[0], l[1], l[5]}) || !slices.Equal(x.All(), l[2:5]) {
		t.Error(got, x.All())
	}
}

// P13.3: what is puts meanwhile is there, and what it takes away is no more.
func TestKeepPuts(t *testing.T) {
	x, l, b, d, f := some(t)
	more := []api.Version{version(b, 0, 1, 1, 4, 9, "more"), version(d, 9, 1, 1, 4, 9, "more"), version(key(t, 2, ""), 0, 1, 1, 0, 1, "more")}
	got := x.Keep(func(v api.Version) bool {
		for _, w := range more {
			x.Add(w, 8)
		}
		return v.Key == f
	})
	if !slices.Equal(got, l[:5]) || !slices.Equal(x.All(), []api.Version{more[0], more[1], l[5], more[2]}) || x.Len() != 4 || x.Height() != 8 {
		t.Error(got, x.All(), x.Len())
	}
	x, l, _, _, f = some(t)
	x.Keep(func(v api.Version) bool {
		x.Keep(func(v api.Version) bool { return v.Key == f })
		return v.Key != b
	})
	if !slices.Equal(x.All(), l[5:]) || x.Len() != 1 {
		t.Error(x.All(), x.Len())
	}
}

// P13.3, R1: where is panics it has not told true; Keep does not panic.
func TestKeepPanics(t *testing.T) {
	for name, why := range map[string]any{"text": "mine", "error": api.ErrArg, "nil": nil} {
		x, l, _, d, _ := some(t)
		got := x.Keep(func(v api.Version) bool {
			if v.Key == d {
				panic(why)
			}
			return true
		})
		if !slices.Equal(got, l[2:5]) || !slices.Equal(x.All(), append(slices.Clone(l[:2]), l[5])) || x.Len() != 3 {
			t.Errorf("%s: %v, left %v", name, got, x.All())
		}
	}
	x, l, _, _, _ := some(t)
	got := x.Keep(func(v api.Version) bool {
		var none map[string]int
		none[v.Key] = 1
		return true
	})
	if !slices.Equal(got, l) || x.Len() != 0 || x.Height() != 0 {
		t.Error(got, x.Len())
	}
}

// rows calls with for each row in which l can be put.
func rows(l []api.Version, with func(row []api.Version)) {
	var put func(row, rest []api.Version)
	put = func(row, rest []api.Version) {
		if len(rest) == 0 {
			with(row)
		}
		for i := range rest {
			put(append(slices.Clone(row), rest[i]), slices.Delete(slices.Clone(rest), i, i+1))
		}
	}
	put(nil, l)
}

// P13.4: versions put in any row, and with any levels: what is told is the same, but Height.
func TestAnyRow(t *testing.T) {
	_, l, b, d, f := some(t)
	asked := []string{"", b, d, f, key(t, 1, "c"), "\xff"}
	count := 0
	rows(l, func(row []api.Version) {
		count++
		x, m := chain.New(), newModel()
		for i, v := range row {
			level := 1 + (count+i*i)%9
			if e := x.Add(v, level); e != api.OK {
				t.Fatalf("%v: %v", row, e)
			}
			m.add(v, level)
		}
		if !slices.Equal(x.All(), l) {
			t.Fatalf("%v: %v", row, x.All())
		}
		if count%9 == 0 {
			check(t, x, m, asked)
		}
		is := func(v api.Version) bool { return v.At.Epoch == 1 }
		if got := x.Keep(is); !slices.Equal(got, []api.Version{l[1], l[5]}) {
			t.Fatalf("%v: Keep: %v", row, got)
		}
	})
	if count != 720 {
		t.Error(count)
	}
}

// P13.4: one that was put, taken away and put again leaves what one that was put once leaves.
func TestAnyPast(t *testing.T) {
	x, l, b, d, f := some(t)
	for i, v := range l {
		x.Keep(func(w api.Version) bool { return w != v })
		x.Add(v, 1+i)
		if !slices.Equal(x.All(), l) || !slices.Equal(x.Keys(), []string{b, d, f}) || x.Len() != 6 {
			t.Errorf("%v: %v", v, x.All())
		}
	}
}

// drawn is a version of a few, so that some drawn ones are alike.
func drawn(r *rand.Rand, keys []string) api.Version {
	from := r.Intn(3)
	v := version(keys[r.Intn(len(keys))], r.Intn(3), 1+r.Intn(3), 1+r.Intn(2), from, from+1+r.Intn(3), fmt.Sprint(r.Intn(100)))
	if r.Intn(5) == 0 {
		v.Value, v.Gone = "", true
	}
	return v
}

// P13.1 to P13.4: many steps of any kind, held against the document's words.
func TestManySteps(t *testing.T) {
	var keys []string
	for _, text := range []string{"", "a", "a\x00", "ab", "b", "\xff"} {
		keys = append(keys, key(t, 0, text), key(t, 2, text))
	}
	asked := append(slices.Clone(keys), "", key(t, 1, ""), key(t, 2, "aa"), "\xff")
	for seed := range int64(60) {
		r := rand.New(rand.NewSource(seed))
		x, m := chain.New(), newModel()
		for range 120 {
			switch v, level := drawn(r, keys), r.Intn(11)-1; {
			case r.Intn(40) == 0:
				v.At.Seq = 0
				if e := x.Add(v, level); e != api.ErrArg {
					t.Fatalf("seed %d: %v: %v", seed, v, e)
				}
			case r.Intn(12) == 0:
				few, salt := 1+r.Intn(4), r.Intn(7)
				is := func(v api.Version) bool { return (len(v.Key)+v.At.Branch+v.At.Epoch*3+v.Span.From+salt)%few != 0 }
				if got, want := x.Keep(is), m.keep(is); !slices.Equal(got, want) {
					t.Fatalf("seed %d: Keep: %v, not %v", seed, got, want)
				}
			default:
				if e, want := x.Add(v, level), m.add(v, level); e != want {
					t.Fatalf("seed %d: %v: %v, not %v", seed, v, e, want)
				}
			}
			if r.Intn(10) == 0 {
				check(t, x, m, asked)
			}
		}
		check(t, x, m, asked)
	}
}

// P13.1, P13.2, P13.3: many versions of one key, and many keys, at no greater cost than there is for.
func TestMany(t *testing.T) {
	const most = 20000
	k := key(t, 1, "k")
	x := chain.New()
	for i := range most {
		if e := x.Add(version(k, 0, 1, most-i, 0, 1, ""), 1); e != api.OK {
			t.Fatal(i, e)
		}
	}
	for i := range most {
		if e := x.Add(version(key(t, 2, fmt.Sprint(i*7919%most)), 0, 1, 1, 0, 1, ""), 1+i%8); e != api.OK {
			t.Fatal(i, e)
		}
	}
	if x.Len() != 2*most || len(x.Keys()) != most+1 || len(x.Of(k)) != most {
		t.Error(x.Len(), len(x.Keys()), len(x.Of(k)))
	}
	if all := x.All(); len(all) != 2*most || !slices.IsSortedFunc(all, before) {
		t.Error(len(all))
	}
	if gone := x.Keep(func(v api.Version) bool { return v.At.Seq%2 == 0 }); len(gone) != most/2+most || !slices.IsSortedFunc(gone, before) {
		t.Error(len(gone))
	}
	if x.Len() != most/2 || !slices.Equal(x.Keys(), []string{k}) {
		t.Error(x.Len(), len(x.Keys()))
	}
}

// spoilAll writes another version over all of a list, its spare room too.
func spoilAll(l []api.Version) {
	l = l[:cap(l)]
	for i := range l {
		l[i] = api.Version{Key: "spoilt", Value: "spoilt"}
	}
}

// R4: what is told is new memory, its spare room too: whatever is written into it, the index is as it was, and so are other answers.
func TestAnswersAreNewMemory(t *testing.T) {
	x, l, b, d, f := some(t)
	tell := map[string]func() []api.Version{
		"Of":           func() []api.Version { return x.Of(d) },
		"Of one":       func() []api.Version { return x.Of(f) },
		"Range":        func() []api.Version { return x.Range(b, f) },
		"Range of one": func() []api.Version { return x.Range(d, f) },
		"All":          func() []api.Version { return x.All() },
	}
	for name, ask := range tell {
		first, second := ask(), ask()
		want := slices.Clone(first)
		spoilAll(first)
		if !slices.Equal(second, want) || !slices.Equal(ask(), want) || !slices.Equal(x.All(), l) {
			t.Errorf("%s is not new memory", name)
		}
		spoilAll(append(second, second...))
		_ = append(ask(), version(d, 9, 9, 9, 9, 10, "behind"))
		if !slices.Equal(x.All(), l) {
			t.Errorf("%s, with more: %v", name, x.All())
		}
	}
	keys := x.Keys()
	for i := range keys {
		keys[i] = "spoilt"
	}
	if !slices.Equal(x.Keys(), []string{b, d, f}) {
		t.Error("Keys is not new memory")
	}
	stay := x.Keep(func(v api.Version) bool { return v.Value != "d2" })
	left := x.All()
	spoilAll(stay)
	if !slices.Equal(x.All(), left) {
		t.Error("Keep's answer is not new memory")
	}
}

// R4: what was told stays as it is, whatever is put and taken away behind that.
func TestAnswersStay(t *testing.T) {
	x, l, b, d, f := some(t)
	of, between, all, keys := x.Of(d), x.Range(b, f), x.All(), x.Keys()
	gone := x.Keep(func(v api.Version) bool { return v.Value != "d1" })
	for i := range 20 {
		x.Add(version(d, 0, 1, 1, i, 40, "more"), 1)
		x.Add(version(key(t, 1, fmt.Sprint("d", i)), 0, 1, 1, i, 40, "more"), 1)
	}
	x.Keep(func(v api.Version) bool { return false })
	x.Add(version(d, 0, 1, 1, 0, 40, "last"), 1)
	if !slices.Equal(of, l[2:5]) || !slices.Equal(between, l[:5]) || !slices.Equal(all, l) || !slices.Equal(keys, []string{b, d, f}) || !slices.Equal(gone, l[2:3]) {
		t.Error(of, between, all, keys, gone)
	}
}

// R4: what is handed in stays as it was, and is not kept: changed behind that, it changes nothing.
func TestNothingIsKept(t *testing.T) {
	x := chain.New()
	l := []api.Version{version(key(t, 1, "a"), 0, 1, 1, 0, 1, "v"), version(key(t, 1, "a"), 0, 2, 1, 0, 1, "w")}
	was := slices.Clone(l)
	for i := range l {
		x.Add(l[i], 3)
	}
	if !slices.Equal(l, was) {
		t.Error("changed:", l)
	}
	spoilAll(l)
	if !slices.Equal(x.All(), was) {
		t.Error("kept:", x.All())
	}
}

// R5: asking changes nothing.
func TestAskingChangesNothing(t *testing.T) {
	x, _, b, d, f := some(t)
	tell := func() []any {
		return []any{x.Of(d), x.Of("none"), x.Range(b, f), x.Range(f, b), x.All(), x.Keys(), x.Len(), x.Height()}
	}
	first := tell()
	for range 3 {
		if got := tell(); !reflect.DeepEqual(got, first) {
			t.Fatal(got, first)
		}
	}
}

// P13.2: the calls of the list that an index embeds tell of its keys.
func TestPromoted(t *testing.T) {
	x, _, b, d, f := some(t)
	if got := x.Row(2); !slices.Equal(got, []string{b, f}) || !slices.Equal(x.Row(1), []string{b, d, f}) || !slices.Equal(x.Row(3), []string{b}) {
		t.Error(got)
	}
	if k, ok := x.Floor(key(t, 1, "e")); k != d || !ok {
		t.Error(k, ok)
	}
}
