package wal_test

import (
	"encoding/binary"
	"fmt"
	"hash/crc32"
	"math"
	"math/rand"
	"slices"
	"strings"
	"testing"

	"duramen/api"
	"duramen/disk"
	"duramen/order"
	"duramen/row"
	"duramen/wal"
)

// key is the key of the table 1 and a text.
func key(text string) string {
	k, e := order.Key(1, text)
	if e != api.OK {
		panic(e)
	}
	return k
}

// put is a version of an epoch: its number, and a value.
func put(epoch, seq int, value string) api.Version {
	return api.Version{
		Key: key("ab"), At: api.Stamp{Branch: 3, Epoch: epoch, Seq: seq}, Span: api.Span{From: 5, To: 7}, Value: value,
	}
}

// gone is a version of an epoch that takes a span away.
func gone(epoch, seq int) api.Version {
	v := put(epoch, seq, "")
	v.Gone = true
	return v
}

// with is a version of an epoch, changed.
func with(epoch int, change func(v *api.Version)) api.Version {
	v := put(epoch, 1, "xyz")
	change(&v)
	return v
}

// group is a group of an epoch that puts values.
func group(epoch int, values ...string) api.Group {
	g := api.Group{Epoch: epoch}
	for i, value := range values {
		g.Rows = append(g.Rows, put(epoch, i+1, value))
	}
	return g
}

// some is three groups in no way at an edge.
func some() []api.Group {
	return []api.Group{group(2, "a", "bc"), group(3), {Epoch: 300, Rows: []api.Version{put(300, 2, "def"), gone(300, 1)}}}
}

// numbers is the bytes of each of l.
func numbers(l ...int) string {
	var b []byte
	for _, n := range l {
		b = binary.AppendUvarint(b, uint64(n))
	}
	return string(b)
}

// lengthy is s behind its length.
func lengthy(s string) string { return numbers(len(s)) + s }

// frame is the frame of s.
func frame(s string) string {
	b := binary.LittleEndian.AppendUint32(nil, uint32(len(s)))
	b = binary.LittleEndian.AppendUint32(b, crc32.ChecksumIEEE([]byte(s)))
	return string(b) + s
}

// rowBytes is a version's bytes, whether it may be or not.
func rowBytes(v api.Version) string {
	mark := 0
	if v.Gone {
		mark = 1
	}
	head := numbers(v.At.Branch, v.At.Epoch, v.At.Seq, v.Span.From, v.Span.To-v.Span.From, mark)
	return head + lengthy(v.Key) + lengthy(v.Value)
}

// groupBytes is a group's bytes, whether it may be or not.
func groupBytes(g api.Group) string {
	s := numbers(g.Epoch, len(g.Rows))
	for _, v := range g.Rows {
		s += rowBytes(v)
	}
	return s
}

// logBytes is the bytes of a log of groups, whether they may be or not.
func logBytes(l ...api.Group) string {
	s := ""
	for _, g := range l {
		s += frame(groupBytes(g))
	}
	return s
}

// same tells whether groups are the same.
func same(a, b []api.Group) bool {
	return slices.EqualFunc(a, b, func(x, y api.Group) bool { return x.Epoch == y.Epoch && slices.Equal(x.Rows, y.Rows) })
}

// copied is groups that share nothing with those that are handed in.
func copied(l []api.Group) []api.Group {
	l = slices.Clone(l)
	for i := range l {
		l[i].Rows = slices.Clone(l[i].Rows)
	}
	return l
}

// is fails, if an error is another one.
func is(t *testing.T, what string, got, want api.Errno) {
	t.Helper()
	if got != want {
		t.Fatalf("%s: %v, not %v", what, got, want)
	}
}

// laid is a disk on which files are, a name and bytes one after the other, synced.
func laid(t *testing.T, quota int, l ...string) *disk.Disk {
	t.Helper()
	d := disk.New(quota)
	for i := 0; i < len(l); i += 2 {
		is(t, "disk's Create", d.Create(l[i]), api.OK)
		is(t, "disk's Append", d.Append(l[i], []byte(l[i+1])), api.OK)
		is(t, "disk's Sync", d.Sync(l[i]), api.OK)
	}
	return d
}

// files is what is on a disk, each file a name, =, its bytes.
func files(d *disk.Disk) string {
	s := ""
	for _, name := range d.List() {
		b, _ := d.Read(name, 0, math.MaxInt)
		s += fmt.Sprintf("%s=%q ", name, b)
	}
	return s
}

// has fails, if what is on the disk is other than these files, a name and bytes one after the other, by their names.
func has(t *testing.T, what string, d *disk.Disk, l ...string) {
	t.Helper()
	want := ""
	for i := 0; i < len(l); i += 2 {
		want += fmt.Sprintf("%s=%q ", l[i], l[i+1])
	}
	if got := files(d); got != want {
		t.Fatalf("%s: on the disk is %s, not %s", what, got, want)
	}
}

// created is a new log, to which groups are put.
func created(t *testing.T, d *disk.Disk, name string, l ...api.Group) *wal.Log {
	t.Helper()
	log, e := wal.Create(d, name)
	is(t, "Create", e, api.OK)
	for _, g := range l {
		is(t, "Append", log.Append(g), api.OK)
	}
	return log
}

// opened is the log of that name, and fails, if its groups are other ones.
func opened(t *testing.T, what string, d *disk.Disk, name string, want ...api.Group) *wal.Log {
	t.Helper()
	log, got, e := wal.Open(d, name)
	if e != api.OK || log == nil || log.Name() != name || !same(got, want) {
		t.Fatalf("%s: Open tells %v, %v, not %v", what, got, e, want)
	}
	return log
}

// refusedCreate fails, if Create does not tell nil and that error, or changes what is on the disk.
func refusedCreate(t *testing.T, what string, d *disk.Disk, name string, want api.Errno) {
	t.Helper()
	ahead := ""
	if d != nil {
		ahead = files(d)
	}
	log, e := wal.Create(d, name)
	if log != nil || e != want {
		t.Fatalf("%s: Create of %q tells %v, %v, not %v", what, name, log, e, want)
	}
	if d != nil && files(d) != ahead {
		t.Fatalf("%s: Create of %q left %s of %s", what, name, files(d), ahead)
	}
}

// refusedOpen fails, if Open does not tell nil, none and that error, or changes what is on the disk.
func refusedOpen(t *testing.T, what string, d *disk.Disk, name string, want api.Errno) {
	t.Helper()
	ahead := ""
	if d != nil {
		ahead = files(d)
	}
	log, l, e := wal.Open(d, name)
	if log != nil || len(l) != 0 || e != want {
		t.Fatalf("%s: Open of %q tells %v, %v, %v, not %v", what, name, log, l, e, want)
	}
	if d != nil && files(d) != ahead {
		t.Fatalf("%s: Open of %q left %s of %s", what, name, files(d), ahead)
	}
}

// refused fails, if Append does not tell that error, or changes what is on the disk.
func refused(t *testing.T, what string, d *disk.Disk, log *wal.Log, g api.Group, want api.Errno) {
	t.Helper()
	ahead := files(d)
	if e := log.Append(g); e != want {
		t.Fatalf("%s: Append of %v tells %v, not %v", what, g, e, want)
	}
	if files(d) != ahead {
		t.Fatalf("%s: Append of %v left %s of %s", what, g, files(d), ahead)
	}
}

// down lets the power go, at no deed of a log.
func down(t *testing.T, d *disk.Disk) {
	t.Helper()
	is(t, "disk's Create", d.Create("spare"), api.OK)
	d.Arm(0)
	is(t, "disk's Remove", d.Remove("spare"), api.ErrDown)
}

// many is a disk with as many files as may be, empty ones, behind one of that name and bytes.
func many(t *testing.T, name, b string) *disk.Disk {
	t.Helper()
	d := laid(t, api.MaxQuota, name, b)
	for i := range api.MaxFiles - 1 {
		is(t, "disk's Create", d.Create(fmt.Sprint("f", i)), api.OK)
	}
	return d
}

// P15.2: the document's example.
func TestExample(t *testing.T) {
	d := laid(t, 1000)
	log := created(t, d, "log", group(1, "a"))
	refused(t, "the second time", d, log, group(1, "a"), api.ErrArg)
	opened(t, "the example", d, "log", group(1, "a"))
}

// Words: a group's bytes, written out by hand, in a frame each.
func TestBytes(t *testing.T) {
	d := laid(t, 1000)
	log := created(t, d, "log")
	is(t, "Append", log.Append(group(1)), api.OK)
	has(t, "a group without rows", d, "log", "\x02\x00\x00\x00"+"\xbe\x23\xc2\x58"+"\x01\x00")
	is(t, "Append", log.Append(api.Group{Epoch: 300, Rows: []api.Version{put(300, 2, "xy"), gone(300, 1)}}), api.OK)
	k := "\x01\x80\x00\x00\x00\x00\x00\x00\x01\x02ab\x00\x01"
	one := "\x03\xac\x02\x02\x05\x02\x00" + "\x0e" + k + "\x02xy"
	two := "\x03\xac\x02\x01\x05\x02\x01" + "\x0e" + k + "\x00"
	has(t, "one of two rows", d, "log", frame("\x01\x00")+frame("\xac\x02"+"\x02"+one+two))
	if s := groupBytes(group(300, "xy")); s != "\xac\x02\x01\x03\xac\x02\x01\x05\x02\x00\x0e"+k+"\x02xy" {
		t.Errorf("the tests' own bytes: %q", s)
	}
}

// P15.1: a log that is created has no groups, and its file no bytes; it is there, whatever comes.
func TestCreate(t *testing.T) {
	for _, name := range []string{"log", "a", "-", "..", "0123456789abcdefghij", "wal-scratch-0", "manifest"} {
		d := laid(t, 1000, "b", "other")
		log, e := wal.Create(d, name)
		if e != api.OK || log == nil || log.Name() != name {
			t.Fatalf("Create(%q): %v %v", name, log, e)
		}
		want := []string{name, "", "b", "other"}
		if name == "manifest" || name == "log" || name == "wal-scratch-0" {
			want = []string{"b", "other", name, ""}
		}
		has(t, "Create", d, want...)
		if d.Used() != len("other") {
			t.Error(d.Used())
		}
		down(t, d)
		d.Up(nil)
		opened(t, name, d, name)
	}
}

// P15.1: of what was there ahead of Create nothing is left, and epochs begin anew.
func TestCreateOver(t *testing.T) {
	for name, b := range map[string]string{
		"nothing":     "",
		"a log":       logBytes(some()...),
		"a spoilt":    logBytes(some()...) + "abc",
		"other bytes": "some text",
	} {
		d := laid(t, 1000, "log", b, "other", "bytes")
		log := created(t, d, "log")
		has(t, name, d, "log", "", "other", "bytes")
		is(t, "Append", log.Append(group(1, "new")), api.OK)
		has(t, name, d, "log", logBytes(group(1, "new")), "other", "bytes")
		opened(t, name, d, "log", group(1, "new"))
	}
}

// P15.1: of bytes that nobody has synced nothing is left either.
func TestCreateOverLoose(t *testing.T) {
	d := laid(t, 1000, "log", "abc")
	is(t, "disk's Append", d.Append("log", []byte("def")), api.OK)
	created(t, d, "log")
	has(t, "over bytes that are not safe", d, "log", "")
	down(t, d)
	d.Up([]int{-1})
	opened(t, "over bytes that are not safe", d, "log")
}

// P15.1: Create needs no room for bytes.
func TestCreateWithoutRoom(t *testing.T) {
	d := laid(t, 0)
	created(t, d, "log")
	has(t, "a quota of 0", d, "log", "")
	d = laid(t, 100, "a", "bytes", "log", "more")
	is(t, "Quota", d.Quota(3), api.OK)
	created(t, d, "log")
	has(t, "over a file, the quota too small", d, "a", "bytes", "log", "")
	created(t, d, "new")
	has(t, "the quota too small", d, "a", "bytes", "log", "", "new", "")
}

// P15.1: Create is refused by the disk's errors, ErrArg without a disk.
func TestCreateRefused(t *testing.T) {
	refusedCreate(t, "no disk", nil, "log", api.ErrArg)
	refusedCreate(t, "no disk of that quota", disk.New(-1), "log", api.ErrArg)
	refusedCreate(t, "no disk, and no name", nil, "", api.ErrArg)
	d := laid(t, 1000, "log", "abc")
	for _, name := range []string{"", "A", "a b", "log/", "log_1", "log\x00", "\xff", "é", "0123456789abcdefghijk", strings.Repeat("a", 1000)} {
		refusedCreate(t, "no name", d, name, api.ErrArg)
	}
	refusedCreate(t, "no file more", many(t, "log", "abc"), "new", api.ErrFull)
	for _, name := range []string{"log", "new", "", "A"} {
		d := laid(t, 1000, "log", "abc")
		down(t, d)
		refusedCreate(t, "the power gone", d, name, api.ErrDown)
		d.Up(nil)
		has(t, "the power gone", d, "log", "abc", "spare", "")
	}
}

// P15.1: a file that is there is made anew also where no file more may be.
func TestCreateOverOneOfMany(t *testing.T) {
	d := many(t, "log", logBytes(some()...))
	log := created(t, d, "log")
	if n := len(d.List()); n != api.MaxFiles || d.Used() != 0 {
		t.Errorf("%d files, %d bytes", n, d.Used())
	}
	is(t, "Append", log.Append(group(1)), api.OK)
	opened(t, "one of many", d, "log", group(1))
	for i := range api.MaxFiles - 1 {
		if _, e := d.Size(fmt.Sprint("f", i)); e != api.OK {
			t.Error(i, e)
		}
	}
}

// P15.1: Open is refused by the disk's errors, ErrArg without a disk.
func TestOpenRefused(t *testing.T) {
	refusedOpen(t, "no disk", nil, "log", api.ErrArg)
	refusedOpen(t, "no disk of that quota", disk.New(-1), "log", api.ErrArg)
	d := laid(t, 1000, "log", logBytes(some()...))
	for _, name := range []string{"", "lo", "log2", "A", "a b", "LOG", "0123456789abcdefghijk"} {
		refusedOpen(t, "no file", d, name, api.ErrNone)
	}
	refusedOpen(t, "no file at all", laid(t, 1000), "log", api.ErrNone)
	down(t, d)
	for _, name := range []string{"log", "none", ""} {
		refusedOpen(t, "the power gone", d, name, api.ErrDown)
	}
	d.Up(nil)
	opened(t, "the power there again", d, "log", some()...)
}

// P15.1: a log whose groups are whole is opened, and left, as it is.
func TestOpen(t *testing.T) {
	for n := range len(some()) + 1 {
		l := some()[:n]
		d := laid(t, 1000, "a", "bytes", "log", logBytes(l...), "z", "")
		for range 2 {
			opened(t, fmt.Sprint(n, " groups"), d, "log", l...)
			has(t, "Open", d, "a", "bytes", "log", logBytes(l...), "z", "")
		}
	}
}

// P15.1: all kinds of groups that may be are told as they are: epochs at the ends, rows at theirs, in any row, alike, of any branch and key.
func TestOpenOfAnyGroup(t *testing.T) {
	v := with(1, func(v *api.Version) { v.Key, v.Value = key(""), strings.Repeat("\x00", api.MaxValue) })
	w := with(1, func(v *api.Version) {
		v.At = api.Stamp{Branch: 15, Epoch: 1, Seq: api.MaxSeq}
		v.Span = api.Span{From: 0, To: api.MaxTime}
	})
	l := []api.Group{
		{Epoch: 1, Rows: []api.Version{w, v, w, gone(1, 5), v}},
		group(2, slices.Repeat([]string{"many"}, 300)...),
		group(127), group(128), group(9999, ""),
		{Epoch: api.MaxEpoch, Rows: []api.Version{gone(api.MaxEpoch, 1)}},
	}
	d := laid(t, api.MaxQuota)
	log := created(t, d, "log", l...)
	has(t, "any groups", d, "log", logBytes(l...))
	opened(t, "any groups", d, "log", l...)
	for _, g := range []api.Group{group(1), group(9999), group(api.MaxEpoch), group(api.MaxEpoch + 1)} {
		refused(t, "behind the last epoch", d, log, g, api.ErrArg)
	}
}

// opensTo fails, if a file of these bytes is not opened as these groups, of which alone its bytes are then, as they are behind a group more.
func opensTo(t *testing.T, what, b string, want ...api.Group) {
	t.Helper()
	want = slices.Clip(want)
	d := laid(t, api.MaxQuota, "log", b, "other", "bytes")
	log := opened(t, what, d, "log", want...)
	has(t, what, d, "log", logBytes(want...), "other", "bytes")
	down(t, d)
	d.Up(nil)
	has(t, what+", the power gone", d, "log", logBytes(want...), "other", "bytes", "spare", "")
	more := group(5000, "more")
	is(t, what+": Append", log.Append(more), api.OK)
	has(t, what+", appended", d, "log", logBytes(append(want, more)...), "other", "bytes", "spare", "")
	opened(t, what+", again", d, "log", append(want, more)...)
}

// whole is how many of the groups stand in the first n bytes of their log.
func whole(l []api.Group, n int) int {
	k := 0
	for k < len(l) && len(logBytes(l[:k+1]...)) <= n {
		k++
	}
	return k
}

// P15.1: of a file that ends anywhere the groups that are whole are told, and what stands behind is no more.
func TestOpenOfCut(t *testing.T) {
	b := logBytes(some()...)
	for n := range len(b) + 1 {
		opensTo(t, fmt.Sprint("cut at ", n), b[:n], some()[:whole(some(), n)]...)
	}
}

// P15.1: from a byte on that is turned, anywhere and to anything, nothing is told.
func TestOpenOfTurned(t *testing.T) {
	b := logBytes(some()...)
	for i := range len(b) {
		for _, x := range []byte{1, 2, 16, 128, 255} {
			s := b[:i] + string([]byte{b[i] ^ x}) + b[i+1:]
			opensTo(t, fmt.Sprint("byte ", i, " turned by ", x), s, some()[:whole(some(), i)]...)
		}
	}
}

// P15.1: behind the groups stands what is none's, be it few bytes or many.
func TestOpenOfMore(t *testing.T) {
	b := logBytes(some()...)
	for _, more := range []string{"\x00", "\x01", "abcdefg", strings.Repeat("\x00", 8), strings.Repeat("\x00", 1000), strings.Repeat("\xff", 100), b, strings.Repeat("text", 10000)} {
		opensTo(t, fmt.Sprintf("%.10q behind", more), b+more, some()...)
		opensTo(t, fmt.Sprintf("%.10q alone", more), more[:min(len(more), 7)])
	}
}

// spoilt is bytes that are no group's, though they stand in whole frames.
func spoilt() map[string]string {
	long := rowBytes(put(400, 1, "xyz"))
	return map[string]string{
		"no bytes":              "",
		"an epoch alone":        numbers(400),
		"a byte of an epoch":    "\x90",
		"epoch 0":               numbers(0, 0),
		"epoch 0, with a row":   numbers(0, 1) + rowBytes(put(0, 1, "a")),
		"epoch above all":       numbers(api.MaxEpoch+1, 0),
		"epoch far above":       numbers(1<<61, 0),
		"no number":             strings.Repeat("\xff", 9) + "\x01\x00",
		"an epoch put long":     "\x90\x83\x00\x00",
		"a count put long":      numbers(400) + "\x80\x00",
		"a byte of a count":     numbers(400) + "\x80",
		"more than there are":   numbers(400, 2) + long,
		"very many":             numbers(400, 1<<61) + long,
		"fewer than there are":  numbers(400, 1) + long + long,
		"a byte more":           numbers(400, 1) + long + "\x00",
		"a byte behind none":    numbers(400, 0) + "\x00",
		"a byte less":           numbers(400, 1) + long[:len(long)-1],
		"another epoch's":       groupBytes(api.Group{Epoch: 400, Rows: []api.Version{put(401, 1, "a")}}),
		"an earlier epoch's":    groupBytes(api.Group{Epoch: 400, Rows: []api.Version{put(399, 1, "a")}}),
		"the last of another":   groupBytes(api.Group{Epoch: 400, Rows: []api.Version{put(400, 1, "a"), put(401, 1, "a")}}),
		"the first of another":  groupBytes(api.Group{Epoch: 400, Rows: []api.Version{put(300, 1, "a"), put(400, 1, "a")}}),
		"a row that may not be": groupBytes(api.Group{Epoch: 400, Rows: []api.Version{put(400, 0, "a")}}),
		"a row of no key":       groupBytes(api.Group{Epoch: 400, Rows: []api.Version{with(400, func(v *api.Version) { v.Key = "ab" })}}),
		"a value too long":      groupBytes(group(400, strings.Repeat("v", api.MaxValue+1))),
		"rows without an epoch": numbers(1) + long,
		"text":                  "some text",
	}
}

// P15.1: from a whole frame on whose bytes are no group's nothing is told.
func TestOpenOfSpoilt(t *testing.T) {
	for name, s := range spoilt() {
		for n := range len(some()) + 1 {
			l := some()[:n]
			opensTo(t, name, logBytes(l...)+frame(s), l...)
			opensTo(t, name+", a group behind", logBytes(l...)+frame(s)+logBytes(group(401, "b")), l...)
		}
	}
}

// P15.1: from a frame on whose Epoch does not rise nothing is told, be the later ones as they may.
func TestOpenOfEpochs(t *testing.T) {
	var all func(l []api.Group)
	all = func(l []api.Group) {
		rising := min(1, len(l))
		for rising > 0 && rising < len(l) && l[rising].Epoch > l[rising-1].Epoch {
			rising++
		}
		opensTo(t, fmt.Sprint("epochs ", l), logBytes(l...), l[:rising]...)
		for epoch := 1; epoch <= 4 && len(l) < 4; epoch++ {
			all(append(slices.Clip(l), group(epoch, "v")))
		}
	}
	all(nil)
	opensTo(t, "far apart", logBytes(group(1), group(4999)), group(1), group(4999))
	opensTo(t, "alike, but for the rows", logBytes(group(7, "a"), group(7)), group(7, "a"))
}

// P15.2: Append is refused with ErrArg, if the group may not be.
func TestAppendOfNoGroup(t *testing.T) {
	for name, g := range map[string]api.Group{
		"epoch 0":                      group(0),
		"epoch -1":                     group(-1),
		"the least epoch":              group(math.MinInt),
		"an epoch above all":           group(api.MaxEpoch + 1),
		"the greatest epoch":           group(math.MaxInt),
		"the zero group":               {},
		"rows of an epoch of 0":        group(0, "a"),
		"an epoch above all, and rows": group(api.MaxEpoch+1, "a"),
		"another epoch's":              {Epoch: 400, Rows: []api.Version{put(401, 1, "a")}},
		"an earlier epoch's":           {Epoch: 400, Rows: []api.Version{put(300, 1, "a")}},
		"the last of another":          {Epoch: 400, Rows: []api.Version{put(400, 1, "a"), put(401, 1, "a")}},
		"the first of another":         {Epoch: 400, Rows: []api.Version{put(5, 1, "a"), put(400, 1, "a")}},
		"the zero row":                 {Epoch: 400, Rows: []api.Version{{}}},
		"number 0":                     {Epoch: 400, Rows: []api.Version{put(400, 0, "a")}},
		"a number above all":           {Epoch: 400, Rows: []api.Version{put(400, api.MaxSeq+1, "a")}},
		"a branch above all":           {Epoch: 400, Rows: []api.Version{with(400, func(v *api.Version) { v.At.Branch = api.MaxBranches })}},
		"a branch below all":           {Epoch: 400, Rows: []api.Version{with(400, func(v *api.Version) { v.At.Branch = -1 })}},
		"no key":                       {Epoch: 400, Rows: []api.Version{put(400, 1, "a"), with(400, func(v *api.Version) { v.Key = "" })}},
		"a span of no times":           {Epoch: 400, Rows: []api.Version{with(400, func(v *api.Version) { v.Span.To = v.Span.From })}},
		"a span above all times":       {Epoch: 400, Rows: []api.Version{with(400, func(v *api.Version) { v.Span.To = api.MaxTime + 1 })}},
		"a value too long":             group(400, strings.Repeat("v", api.MaxValue+1)),
		"gone, with a value":           {Epoch: 400, Rows: []api.Version{with(400, func(v *api.Version) { v.Gone = true })}},
	} {
		d := laid(t, api.MaxQuota)
		log := created(t, d, "log")
		refused(t, name+", first", d, log, g, api.ErrArg)
		is(t, "Append", log.Append(group(300, "x")), api.OK)
		refused(t, name, d, log, g, api.ErrArg)
		is(t, "Append", log.Append(group(400, "y")), api.OK)
		opened(t, name, d, "log", group(300, "x"), group(400, "y"))
	}
}

// P15.2: Append is refused with ErrArg, if the Epoch is not above that of the last group, of this log or ahead of an Open.
func TestAppendOfEpochs(t *testing.T) {
	d := laid(t, 1000)
	log := created(t, d, "log")
	last := 0
	for _, epoch := range []int{1, 1, 2, 1, 4, 3, 2, 4, 5, 9999, 9998, 9999, 10000, 10000, 9999, 1} {
		want := api.OK
		if epoch <= last {
			want = api.ErrArg
		}
		is(t, fmt.Sprint("Append of ", epoch, " behind ", last), log.Append(group(epoch, "v")), want)
		last = max(last, epoch)
		again, _, e := wal.Open(d, "log")
		is(t, "Open", e, api.OK)
		for _, early := range []int{last, last - 1, 1} {
			refused(t, fmt.Sprint("behind Open, ", last), d, again, group(early, "w"), api.ErrArg)
		}
	}
	opened(t, "epochs", d, "log", group(1, "v"), group(2, "v"), group(4, "v"), group(5, "v"), group(9999, "v"), group(10000, "v"))
}

// P15.2: what is OK is there, and synced: whatever happens then, it stays.
func TestAppendIsSynced(t *testing.T) {
	d := laid(t, 10000)
	log := created(t, d, "log")
	for i := range 20 {
		is(t, "Append", log.Append(group(i+1, "v", "w")), api.OK)
		is(t, "disk's Append", d.Append("log", nil), api.OK)
		d.Arm(0)
		is(t, "disk's Sync", d.Sync("log"), api.ErrDown)
		d.Up(nil)
		b, _ := d.Read("log", 0, math.MaxInt)
		var l []api.Group
		for k := range i + 1 {
			l = append(l, group(k+1, "v", "w"))
		}
		if string(b) != logBytes(l...) {
			t.Fatalf("behind %d groups: %q", i+1, b)
		}
	}
}

// P15.2: where the disk has no room the log is as it was; less may go in, and the same, once there is room.
func TestAppendFull(t *testing.T) {
	l, g, small := some(), group(301, "value", "another"), group(301, "v")
	size, most, least := len(logBytes(l...)), len(logBytes(g)), len(logBytes(small))
	for room := range most {
		d := laid(t, size+room)
		log := created(t, d, "log", l...)
		what := fmt.Sprint("room for ", room)
		refused(t, what, d, log, g, api.ErrFull)
		opened(t, what, d, "log", l...)
		if room < least {
			refused(t, what, d, log, small, api.ErrFull)
			is(t, "Quota", d.Quota(size+least), api.OK)
		}
		is(t, what+": Append of less", log.Append(small), api.OK)
		has(t, what, d, "log", logBytes(append(l, small)...))
		opened(t, what, d, "log", append(l, small)...)
	}
	d := laid(t, size+most+5, "other", "bytes")
	log := created(t, d, "log", append(l, g)...)
	refused(t, "no room for a byte more", d, log, group(302), api.ErrFull)
	is(t, "disk's Remove", d.Remove("other"), api.OK)
	refused(t, "no room still", d, log, group(302), api.ErrFull)
	is(t, "Quota", d.Quota(1000), api.OK)
	is(t, "Append where there is room again", log.Append(group(302)), api.OK)
	opened(t, "room again", d, "log", append(l, g, group(302))...)
}

// P15.2: a group greater than any disk is refused, too.
func TestAppendOfTooMuch(t *testing.T) {
	d := laid(t, api.MaxQuota)
	log := created(t, d, "log", group(1))
	g := group(2, slices.Repeat([]string{strings.Repeat("v", api.MaxValue)}, api.MaxQuota/api.MaxValue)...)
	refused(t, "too much", d, log, g, api.ErrFull)
	d.Arm(0)
	refused(t, "too much, which is no deed", d, log, g, api.ErrFull)
	if !d.Alive() {
		t.Error("the power is gone")
	}
}

// P15.2: with the power gone, and behind that in each call of the log, ErrDown is told, though ErrArg ahead of it.
func TestAppendDown(t *testing.T) {
	d := laid(t, 1000)
	log := created(t, d, "log", some()...)
	down(t, d)
	refused(t, "no group, the power gone", d, log, group(0), api.ErrArg)
	refused(t, "an early one, the power gone", d, log, group(300), api.ErrArg)
	refused(t, "the power gone", d, log, group(301), api.ErrDown)
	refused(t, "the power gone still", d, log, group(301), api.ErrDown)
	d.Up(nil)
	for range 3 {
		refused(t, "no group, the power there", d, log, group(0), api.ErrArg)
		refused(t, "an early one, the power there", d, log, group(300), api.ErrArg)
		refused(t, "the power there", d, log, group(301), api.ErrDown)
		refused(t, "one of no room, the power there", d, log, group(302, slices.Repeat([]string{"v"}, 1000)...), api.ErrDown)
	}
	again := opened(t, "the power there", d, "log", some()...)
	is(t, "Append behind Open", again.Append(group(301, "v")), api.OK)
	refused(t, "the old log", d, log, group(302), api.ErrDown)
	opened(t, "at last", d, "log", append(some(), group(301, "v"))...)
}

// P15.2: a log of which no call has told ErrDown goes on, when the power is there again.
func TestAppendNotDown(t *testing.T) {
	d := laid(t, 1000)
	log, other := created(t, d, "log", some()...), created(t, d, "other", group(1))
	d.Arm(0)
	is(t, "the other one's Append", other.Append(group(2)), api.ErrDown)
	refused(t, "an early one, the power gone", d, log, group(1), api.ErrArg)
	d.Up(nil)
	is(t, "Append", log.Append(group(301)), api.OK)
	is(t, "the other one's Append", other.Append(group(2)), api.ErrDown)
	opened(t, "the one", d, "log", append(some(), group(301))...)
	opened(t, "the other one", d, "other", group(1))
}

// P15.1, P15.2: the logs of a disk, and of two, have nothing in common.
func TestTwoLogs(t *testing.T) {
	d, far := laid(t, 1000), laid(t, 1000)
	a, b, c := created(t, d, "a"), created(t, d, "b"), created(t, far, "a")
	is(t, "Append", a.Append(group(5, "a")), api.OK)
	is(t, "Append", b.Append(group(3, "b")), api.OK)
	is(t, "Append", c.Append(group(2, "c")), api.OK)
	is(t, "Append", b.Append(group(4, "b")), api.OK)
	is(t, "Append", a.Append(group(6, "a")), api.OK)
	if a.Name() != "a" || b.Name() != "b" || c.Name() != "a" {
		t.Error(a.Name(), b.Name(), c.Name())
	}
	opened(t, "a", d, "a", group(5, "a"), group(6, "a"))
	opened(t, "b", d, "b", group(3, "b"), group(4, "b"))
	opened(t, "c", far, "a", group(2, "c"))
	created(t, d, "a")
	opened(t, "b", d, "b", group(3, "b"), group(4, "b"))
}

// P15.3: whatever deed of an Append the power goes at, and whatever is kept: all that was OK is told, and, if all of it is kept, the group under way.
func TestPowerInAppend(t *testing.T) {
	for n := range len(some()) + 1 {
		l, g := some()[:n], group(301, "under", "way")
		size := len(logBytes(g))
		for after := range 2 {
			for keep := range size + 1 {
				what := fmt.Sprint("behind ", n, " groups, after ", after, " deeds, ", keep, " kept")
				d := laid(t, 1000)
				log := created(t, d, "log", l...)
				d.Arm(after)
				is(t, what, log.Append(g), api.ErrDown)
				refused(t, what, d, log, group(302), api.ErrDown)
				refusedOpen(t, what, d, "log", api.ErrDown)
				d.Up([]int{keep})
				refused(t, what, d, log, group(302), api.ErrDown)
				has(t, what, d, "log", logBytes(append(copied(l), g)...)[:len(logBytes(l...))+keep])
				if keep == size {
					opensOn(t, what, d, append(copied(l), g)...)
				} else {
					opensOn(t, what, d, l...)
				}
			}
		}
	}
}

// opensOn fails, if there are other groups, or these do not stay, as one more is put.
func opensOn(t *testing.T, what string, d *disk.Disk, want ...api.Group) {
	t.Helper()
	want = slices.Clip(want)
	log := opened(t, what, d, "log", want...)
	has(t, what, d, "log", logBytes(want...))
	is(t, what, log.Append(group(400, "more")), api.OK)
	opened(t, what, d, "log", append(want, group(400, "more"))...)
}

// P15.3: whatever deed of a Create the power goes at, there is no file, or a log without groups.
func TestPowerInCreate(t *testing.T) {
	for after := 0; ; after++ {
		d := laid(t, 1000, "other", "bytes")
		d.Arm(after)
		log, e := wal.Create(d, "log")
		if e == api.OK {
			if after < 2 {
				t.Error("no file can be made, and synced, by fewer deeds than two")
			}
			return
		}
		if log != nil || e != api.ErrDown {
			t.Fatalf("after %d deeds: %v %v", after, log, e)
		}
		refusedCreate(t, "the power gone", d, "log", api.ErrDown)
		d.Up([]int{after})
		if _, e := d.Size("log"); e == api.ErrNone {
			refusedOpen(t, "no log", d, "log", api.ErrNone)
		} else {
			opened(t, "a log", d, "log")
		}
		created(t, d, "log", group(1))
		has(t, "at last", d, "log", logBytes(group(1)), "other", "bytes")
	}
}

// P15.3: whatever deed of a Create over a log the power goes at, all its groups are told, or none, and the log is there.
func TestPowerInCreateOver(t *testing.T) {
	for _, more := range []string{"", "spoilt"} {
		done := false
		for after := 0; !done; after++ {
			for keep := range 10 {
				what := fmt.Sprint("after ", after, " deeds, ", keep, " kept")
				d := laid(t, 1000, "log", logBytes(some()...)+more, "other", "bytes")
				d.Arm(after)
				_, e := wal.Create(d, "log")
				if done = e == api.OK; done {
					break
				}
				is(t, what, e, api.ErrDown)
				d.Up([]int{keep})
				_, l, e := wal.Open(d, "log")
				if e != api.OK || len(l) > 0 && !same(l, some()) {
					t.Fatalf("%s: %v %v", what, l, e)
				}
				created(t, d, "log")
				has(t, what, d, "log", "", "other", "bytes")
			}
		}
	}
}

// torn is files' bytes that are opened as the groups of some, or of none.
func torn() map[string][]api.Group {
	b := logBytes(some()...)
	return map[string][]api.Group{
		b:                                     some(),
		b + logBytes(group(301, "torn"))[:20]: some(),
		b + frame("spoilt") + logBytes(group(301, "torn")): some(),
		"spoilt": nil,
		b[:len(logBytes(some()[:2]...))] + logBytes(group(1, "early")): some()[:2],
	}
}

// P15.3: whatever deeds of Opens the power goes at, time and again, and whatever of it is kept: the next one tells all groups, and leaves nothing else on the disk, also where there is just room for them twice.
func TestPowerInOpen(t *testing.T) {
	for b, l := range torn() {
		size := len(logBytes(l...))
		for after := 0; after < 36; after++ {
			for keep := range size + 2 {
				what := fmt.Sprintf("%.20q, after %d and %d deeds, %d kept", b, after%6, after/6, keep)
				d := laid(t, len(b)+size+len("bytes"), "log", b, "other", "bytes")
				for _, n := range []int{after % 6, after / 6, after % 6} {
					d.Arm(n)
					log, got, e := wal.Open(d, "log")
					if e != api.OK && (e != api.ErrDown || log != nil || len(got) > 0) || e == api.OK && !same(got, l) {
						t.Fatalf("%s: %v %v %v", what, log, got, e)
					}
					d.Up([]int{keep})
				}
				opened(t, what, d, "log", l...)
				has(t, what, d, "log", logBytes(l...), "other", "bytes")
			}
		}
	}
}

// P15.3: Open leaves all of a log where it is, till it has what is to take its place; the power that goes takes nothing of it.
func TestPowerInOpenTakesNothing(t *testing.T) {
	for b, l := range torn() {
		for after := 0; ; after++ {
			d := laid(t, 1000, "log", b)
			d.Arm(after)
			_, _, e := wal.Open(d, "log")
			d.Up(nil)
			got, _ := d.Read("log", 0, 1000)
			if s := string(got); s != b && s != logBytes(l...) {
				t.Fatalf("after %d deeds: %q", after, s)
			}
			if e == api.OK {
				break
			}
			is(t, "Open", e, api.ErrDown)
		}
	}
}

// P15.3: a log may have the name of what takes a log's place, and loses nothing by it.
func TestPowerAndNames(t *testing.T) {
	b := logBytes(some()...)
	open := func(d *disk.Disk, name string) api.Errno { _, _, e := wal.Open(d, name); return e }
	create := func(d *disk.Disk, name string) api.Errno { _, e := wal.Create(d, name); return e }
	for _, name := range []string{"wal-scratch-0", "wal-scratch-1", "0123456789abcdefghij"} {
		for i, call := range []func(d *disk.Disk, name string) api.Errno{open, create} {
			for after, done := 0, false; !done; after++ {
				what := fmt.Sprint(name, ", after ", after, " deeds")
				d := laid(t, 1000, name, b+"torn")
				d.Arm(after)
				done = call(d, name) == api.OK
				d.Up(nil)
				_, l, e := wal.Open(d, name)
				if e != api.OK || !same(l, some()) && (i == 0 || len(l) > 0) {
					t.Fatalf("%s: %v %v", what, l, e)
				}
			}
		}
	}
}

// P15.3: what Open has told stays, also if nobody has synced it.
func TestOpenedStays(t *testing.T) {
	for b, l := range torn() {
		d := laid(t, 1000)
		is(t, "disk's Create", d.Create("log"), api.OK)
		is(t, "disk's Append", d.Append("log", []byte(b)), api.OK)
		opened(t, "not synced", d, "log", l...)
		down(t, d)
		d.Up(nil)
		opened(t, "opened", d, "log", l...)
	}
}

// P15.3: of a file that nobody has synced, and of which the power takes all as it is opened, nothing is left lying about.
func TestPowerInOpenOfLoose(t *testing.T) {
	for after := range 8 {
		d := laid(t, 1000)
		is(t, "disk's Create", d.Create("log"), api.OK)
		is(t, "disk's Append", d.Append("log", []byte(logBytes(some()...)+"torn")), api.OK)
		d.Arm(after)
		wal.Open(d, "log")
		d.Up(nil)
		b, _ := d.Read("log", 0, 1000)
		var want []api.Group
		if len(b) > 0 {
			want = some()
		}
		opened(t, fmt.Sprint("after ", after, " deeds"), d, "log", want...)
		has(t, fmt.Sprint("after ", after, " deeds"), d, "log", logBytes(want...))
	}
}

// P15.1, P15.3: where there is no room for what is to take a log's place Open is refused, and nothing is changed, also if the power goes meanwhile.
func TestOpenFull(t *testing.T) {
	for b, l := range torn() {
		need := len(logBytes(l...))
		if need == len(b) {
			need = 0
		}
		for room := range need + 1 {
			what := fmt.Sprintf("%.20q, room for %d", b, room)
			for after := range 8 {
				d := laid(t, len(b)+room, "log", b)
				d.Arm(after)
				_, got, e := wal.Open(d, "log")
				if e == api.OK && (room < need || !same(got, l)) || e == api.ErrFull && room == need || len(got) > 0 && e != api.OK {
					t.Fatalf("%s: %v %v", what, got, e)
				}
				d.Up(nil)
				if room < need {
					fullOpen(t, what, d, b)
					is(t, "Quota", d.Quota(len(b)+need), api.OK)
				}
				opened(t, what, d, "log", l...)
				has(t, what, d, "log", logBytes(l...))
			}
		}
	}
}

// fullOpen fails, if Open is not refused for want of room, or the log of bytes b is not alone on the disk then.
func fullOpen(t *testing.T, what string, d *disk.Disk, b string) {
	t.Helper()
	log, l, e := wal.Open(d, "log")
	if log != nil || len(l) > 0 || e != api.ErrFull {
		t.Fatalf("%s: %v %v %v", what, log, l, e)
	}
	has(t, what, d, "log", b)
	refusedOpen(t, what, d, "log", api.ErrFull)
}

// P15.1: where no file more may be, a log behind whose groups anything stands can't be opened; the log stays as it was.
func TestOpenOfOneOfMany(t *testing.T) {
	b := logBytes(some()...)
	opened(t, "as it is", many(t, "log", b), "log", some()...)
	d := many(t, "log", b+"torn")
	refusedOpen(t, "no file more", d, "log", api.ErrFull)
	is(t, "disk's Remove", d.Remove("f7"), api.OK)
	opened(t, "a file more", d, "log", some()...)
	if n := len(d.List()); n != api.MaxFiles-1 || d.Used() != len(b) {
		t.Error(n, d.Used())
	}
}

// P15.1: with nothing to keep, Open needs no room for bytes, also where the files have more than the quota.
func TestOpenOfNoneWithoutRoom(t *testing.T) {
	d := laid(t, 1000, "log", "torn", "other", "bytes")
	is(t, "Quota", d.Quota(6), api.OK)
	opened(t, "no room", d, "log")
	has(t, "no room", d, "log", "", "other", "bytes")
	is(t, "Quota", d.Quota(0), api.OK)
	opened(t, "no room at all", d, "log")
}

// P15.1: other files stay as they are, whatever their names, and a log may have any of these.
func TestOtherFilesStay(t *testing.T) {
	b := logBytes(some()...)
	var l []string
	for _, name := range []string{"log-", "log-2", "log.new", "log.tmp", "new", "tmp", "wal", "wal-scratch-0", "wal-scratch-1", "wal-scratch-2", "wal-scratch-", "wal-scratch-x"} {
		l = append(l, name, "other bytes "+name)
	}
	for _, name := range []string{"log", "0123456789abcdefghij", "wal-scratch-", "wal-scratch-0", "wal-scratch-1", "wal-scratch-2", "wal-scratch-3", "tmp"} {
		d := laid(t, 10000, l...)
		d.Remove(name)
		is(t, "disk's Create", d.Create(name), api.OK)
		is(t, "disk's Append", d.Append(name, []byte(b+"torn")), api.OK)
		opened(t, name, d, name, some()...)
		stays(t, d, name, b, l)
		created(t, d, name)
		stays(t, d, name, "", l)
	}
}

// stays fails, if the file of that name has other bytes, or one of l, a name and bytes one after the other, that has another name, or if there is another one.
func stays(t *testing.T, d *disk.Disk, name, b string, l []string) {
	t.Helper()
	want := map[string]string{name: b}
	for i := 0; i < len(l); i += 2 {
		if l[i] != name {
			want[l[i]] = l[i+1]
		}
	}
	for _, name := range d.List() {
		if b, _ := d.Read(name, 0, 10000); string(b) != want[name] {
			t.Fatalf("%s has %q, not %q", name, b, want[name])
		}
	}
	if n := len(d.List()); n != len(want) {
		t.Fatalf("%d files, not %d: %v", n, len(want), d.List())
	}
}

// P15.1: what the power left of an Open hinders no other call, on that log and on others, and is no more behind one on that log.
func TestLeftOver(t *testing.T) {
	b, c := logBytes(some()...), logBytes(group(1, "other"))
	for _, after := range []int{2, 3, 4} {
		for keep := range len(b) + 1 {
			d := laid(t, 10000, "log", b+"torn", "other", c+"torn")
			d.Arm(after)
			_, _, e := wal.Open(d, "log")
			is(t, "Open", e, api.ErrDown)
			d.Up([]int{keep})
			opened(t, "the other one", d, "other", group(1, "other"))
			if keep%2 == 0 {
				created(t, d, "log")
				has(t, "Create", d, "log", "", "other", c)
				continue
			}
			opened(t, "the same one", d, "log", some()...)
			has(t, "Open", d, "log", b, "other", c)
		}
	}
}

// P15.1: Name tells the name, whatever is called meanwhile.
func TestName(t *testing.T) {
	d := laid(t, 1000)
	log := created(t, d, "some-log.7")
	is(t, "Append", log.Append(group(1)), api.OK)
	is(t, "Append", log.Append(group(1)), api.ErrArg)
	down(t, d)
	is(t, "Append", log.Append(group(2)), api.ErrDown)
	if s := log.Name(); s != "some-log.7" {
		t.Error(s)
	}
	d.Up(nil)
	opened(t, "Name", d, "some-log.7", group(1))
}

// R4: what is handed in stays as it was, its spare room, too, and is not kept.
func TestHandedIn(t *testing.T) {
	d := laid(t, 1000)
	log := created(t, d, "log")
	rows := slices.Grow(group(2, "a", "b", "c").Rows, 4)[:5]
	rows[3], rows[4] = put(3, 1, "spare"), put(0, 0, "spare")
	ahead := slices.Clone(rows)
	g := api.Group{Epoch: 2, Rows: rows[:3]}
	is(t, "Append", log.Append(g), api.OK)
	is(t, "Append", log.Append(g), api.ErrArg)
	is(t, "Append", log.Append(api.Group{Epoch: 3, Rows: rows}), api.ErrArg)
	if !slices.Equal(rows, ahead) {
		t.Errorf("handed in: %v, not %v", rows, ahead)
	}
	g.Epoch, rows[0] = 7, put(9, 9, "other")
	is(t, "Append", log.Append(group(3)), api.OK)
	opened(t, "changed meanwhile", d, "log", group(2, "a", "b", "c"), group(3))
}

// R4: nil and empty rows are one.
func TestEmptyRows(t *testing.T) {
	d := laid(t, 1000)
	created(t, d, "log", api.Group{Epoch: 1, Rows: []api.Version{}}, api.Group{Epoch: 2})
	has(t, "empty rows", d, "log", logBytes(group(1), group(2)))
}

// R4: what is told is new memory: no two groups, of one answer or of two, share any, nor does the log, or the disk.
func TestAnswered(t *testing.T) {
	d := laid(t, 1000, "log", logBytes(some()...))
	log, l, e := wal.Open(d, "log")
	is(t, "Open", e, api.OK)
	_, other, e := wal.Open(d, "log")
	is(t, "Open", e, api.OK)
	for i := range l {
		rows := append(l[i].Rows, put(1, 1, "more"), put(1, 1, "more"))
		for k := range rows {
			rows[k] = put(9000, 1, "changed")
		}
		l[i] = api.Group{Epoch: 9000}
		if !same(other, some()) || i+1 < len(l) && !same(l[i+1:], some()[i+1:]) {
			t.Fatalf("changed the group %d: %v, %v", i, l, other)
		}
	}
	_ = append(l[:0], group(1), group(1), group(1))
	is(t, "Append", log.Append(group(300)), api.ErrArg)
	is(t, "Append", log.Append(group(301)), api.OK)
	opened(t, "changed", d, "log", append(some(), group(301))...)
}

// anyGroup is a group, most often of one of the next epochs, and one that may be.
func anyGroup(r *rand.Rand, last int) api.Group {
	epoch := last + r.Intn(5) - 1
	if r.Intn(30) == 0 {
		epoch = r.Intn(40)
	}
	g := api.Group{Epoch: epoch}
	for i := range r.Intn(6) {
		v := put(epoch, r.Intn(5)+1, strings.Repeat("v", r.Intn(50)))
		v.At.Branch, v.Key = r.Intn(16), key(strings.Repeat("k", r.Intn(40)))
		if r.Intn(40) == 0 {
			v.At.Epoch += i - 2
		}
		if r.Intn(40) == 0 {
			v.At.Seq = 0
		}
		g.Rows = append(g.Rows, v)
	}
	return g
}

// may tells whether a group may be, by the document's words.
func may(g api.Group) bool {
	for _, v := range g.Rows {
		if !row.May(v) || v.At.Epoch != g.Epoch {
			return false
		}
	}
	return g.Epoch >= 1 && g.Epoch <= 10000
}

// past is a log on a disk: the groups that were OK, those that may be told in their stead, behind a call at which the power went, and whether the log has told ErrDown.
type past struct {
	d             *disk.Disk
	quota         int
	log           *wal.Log
	groups, other []api.Group
	told          bool
}

// refuses is what Append is to tell of g, while the power is there, or gone ahead of it.
func (p *past) refuses(g api.Group) api.Errno {
	last := 0
	if n := len(p.groups); n > 0 {
		last = p.groups[n-1].Epoch
	}
	switch {
	case !may(g) || g.Epoch <= last:
		return api.ErrArg
	case p.told || !p.d.Alive():
		return api.ErrDown
	case p.d.Used()+len(logBytes(g)) > p.quota:
		return api.ErrFull
	}
	return api.OK
}

// append puts any group.
func (p *past) append(t *testing.T, r *rand.Rand) {
	t.Helper()
	last := 0
	if n := len(p.groups); n > 0 {
		last = p.groups[n-1].Epoch
	}
	g := anyGroup(r, last)
	want := p.refuses(g)
	e := p.log.Append(g)
	more := append(copied(p.groups), g)
	if want == api.OK && e == api.ErrDown && !p.d.Alive() {
		p.other, p.told = more, true
		return
	}
	is(t, fmt.Sprint("Append of ", g, " behind ", p.groups), e, want)
	if e == api.OK {
		p.groups, p.other = more, more
	}
	p.told = p.told || e == api.ErrDown
}

// create makes the log anew.
func (p *past) create(t *testing.T) {
	t.Helper()
	if !p.d.Alive() {
		refusedCreate(t, "the power gone", p.d, "log", api.ErrDown)
		return
	}
	log, e := wal.Create(p.d, "log")
	if e == api.ErrDown && !p.d.Alive() {
		p.other = nil
		return
	}
	is(t, "Create", e, api.OK)
	p.log, p.groups, p.other, p.told = log, nil, nil, false
}

// open opens the log, the disk armed or not.
func (p *past) open(t *testing.T) {
	t.Helper()
	log, l, e := wal.Open(p.d, "log")
	least := min(len(logBytes(p.groups...)), len(logBytes(p.other...)))
	switch {
	case e == api.OK && (same(l, p.groups) || same(l, p.other)):
		p.log, p.groups, p.other, p.told = log, copied(l), copied(l), false
		p.tidy(t)
	case e == api.ErrFull && p.d.Used()+least > p.quota:
		p.quota *= 2
		is(t, "Quota", p.d.Quota(p.quota), api.OK)
	case e == api.ErrDown && !p.d.Alive():
	default:
		t.Fatalf("Open tells %v, %v, not %v or %v", l, e, p.groups, p.other)
	}
}

// tidy fails, if there is more on the disk than the other file, the log's groups, and no bytes more.
func (p *past) tidy(t *testing.T) {
	t.Helper()
	a, _ := p.d.Read("a", 0, 1000)
	log, _ := p.d.Read("log", 0, api.MaxQuota)
	if string(a) != "bytes" || string(log) != logBytes(p.groups...) || p.d.Used() != len(a)+len(log) || len(p.d.List()) > 3 {
		t.Fatalf("on the disk is %s, and the groups are %v", files(p.d), p.groups)
	}
}

// up lets the power be there again, any bytes kept, and opens the log, till it is.
func (p *past) up(t *testing.T, r *rand.Rand) {
	t.Helper()
	for p.log = nil; p.log == nil; p.open(t) {
		p.d.Up([]int{r.Intn(100), r.Intn(1000) - 500})
		if r.Intn(3) == 0 {
			p.d.Arm(r.Intn(8))
		}
	}
}

// P15.1, P15.2, P15.3: any calls, at any of whose deeds the power may go, tell what the document's words say.
func TestAnyPast(t *testing.T) {
	r := rand.New(rand.NewSource(15))
	for range 300 {
		p := &past{quota: 500 + r.Intn(3000)}
		p.d = laid(t, p.quota, "a", "bytes")
		p.create(t)
		for range 120 {
			switch n := r.Intn(40); {
			case n == 0:
				p.create(t)
			case n < 4:
				p.open(t)
			case n < 8:
				p.d.Arm(r.Intn(9))
			default:
				p.append(t, r)
			}
			if !p.d.Alive() && r.Intn(3) > 0 {
				p.up(t, r)
			}
		}
	}
}
