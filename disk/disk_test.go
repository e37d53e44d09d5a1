package disk_test

import (
	"bytes"
	"fmt"
	"math"
	"math/rand"
	"slices"
	"strings"
	"testing"

	"duramen/api"
	"duramen/disk"
)

const (
	ok    = api.OK
	arg   = api.ErrArg
	full  = api.ErrFull
	down  = api.ErrDown
	none  = api.ErrNone
	exist = api.ErrExist
)

// made is a disk of that quota, which may be.
func made(t *testing.T, quota int) *disk.Disk {
	t.Helper()
	d := disk.New(quota)
	if d == nil {
		t.Fatalf("New(%d) = nil", quota)
	}
	return d
}

// is fails, if what was told is not what is asked for.
func is(t *testing.T, what string, got, want api.Errno) {
	t.Helper()
	if got != want {
		t.Errorf("%s: %v, not %v", what, got, want)
	}
}

// put makes a file with safe bytes, and others.
func put(t *testing.T, d *disk.Disk, name, safe, loose string) {
	t.Helper()
	is(t, "Create "+name, d.Create(name), ok)
	is(t, "Append to "+name, d.Append(name, []byte(safe)), ok)
	is(t, "Sync "+name, d.Sync(name), ok)
	is(t, "Append to "+name, d.Append(name, []byte(loose)), ok)
}

// tells is all that can be seen of a disk whose power is there: its names, each with its bytes.
func tells(t *testing.T, d *disk.Disk) string {
	t.Helper()
	var l []string
	sum := 0
	for _, name := range d.List() {
		n, e := d.Size(name)
		is(t, "Size of "+name, e, ok)
		b, e := d.Read(name, 0, math.MaxInt)
		is(t, "Read of "+name, e, ok)
		if len(b) != n {
			t.Errorf("%s has %d bytes, of the size %d", name, len(b), n)
		}
		sum += n
		l = append(l, name+"="+string(b))
	}
	if d.Used() != sum {
		t.Errorf("Used() = %d, not %d", d.Used(), sum)
	}
	return strings.Join(l, " ")
}

// has fails, if the disk does not tell that.
func has(t *testing.T, what string, d *disk.Disk, want string) {
	t.Helper()
	if !d.Alive() {
		t.Errorf("%s: the power is gone", what)
	}
	if got := tells(t, d); got != want {
		t.Errorf("%s: %.300q, not %.300q", what, got, want)
	}
}

// lose lets the power go, at an Append of nothing to a file that there is.
func lose(t *testing.T, d *disk.Disk, name string) {
	t.Helper()
	d.Arm(0)
	is(t, "Append as the power goes", d.Append(name, nil), down)
}

// goodNames and badNames are names of files, and texts that are none.
func goodNames() []string {
	return []string{"a", "z", "0", "9", ".", "-", "..", "--", "m", "5", "log-1", "manifest", "run.17", "a.b-c", strings.Repeat("a", 20), "abcdefghijklmnopqrst", "uvwxyz0123456789.-", strings.Repeat("-", 19)}
}

func badNames() []string {
	l := []string{"", strings.Repeat("a", 21), strings.Repeat("a", 300), strings.Repeat("a", 20) + "\x00", "A", "Z", "aB", "_", "/", "a/b", " ", "a b", "a\n", "\x00", "a\x00", "é", "ä", "\xff", "a\x80", "~", "日本", "+", ",", ":", "`", "{", "@", "a*", "-_"}
	for c := range 256 {
		if !strings.Contains("abcdefghijklmnopqrstuvwxyz0123456789.-", string([]byte{byte(c)})) {
			l = append(l, string([]byte{byte(c)}), string([]byte{'a', byte(c)}), string([]byte{byte(c), 'a'}), string([]byte{'a', byte(c), 'a'}))
		}
	}
	return l
}

// farNumbers is numbers at the ends, below 0.
func farNumbers() []int {
	return []int{-1, -2, -300, math.MinInt32, math.MinInt + 1, math.MinInt}
}

// P7.1: New.
func TestNew(t *testing.T) {
	for _, q := range append(farNumbers(), 1<<24+1, 1<<24+2, 1<<32, math.MaxInt) {
		if d := disk.New(q); d != nil {
			t.Errorf("New(%d) is a disk", q)
		}
	}
	for _, q := range []int{0, 1, 2, 1000, 1<<24 - 1, 1 << 24} {
		d := made(t, q)
		has(t, fmt.Sprint("New ", q), d, "")
		is(t, "Create", d.Create("a"), ok)
		is(t, "Append of all that goes in", d.Append("a", make([]byte, q)), ok)
		is(t, "Append of one more", d.Append("a", []byte{1}), full)
		if n, e := d.Size("a"); n != q || e != ok {
			t.Errorf("Size behind New(%d): %d %v", q, n, e)
		}
	}
}

// P7.1: names that may be, and texts that are none.
func TestNames(t *testing.T) {
	d := made(t, 10)
	for _, name := range goodNames() {
		is(t, "Create "+name, d.Create(name), ok)
		is(t, "Create again "+name, d.Create(name), exist)
		is(t, "Rename to one more", d.Rename(name, "x"), ok)
		is(t, "Rename back", d.Rename("x", name), ok)
		has(t, name, d, name+"=")
		is(t, "Remove "+name, d.Remove(name), ok)
	}
	is(t, "Create a", d.Create("a"), ok)
	for _, name := range badNames() {
		is(t, "Create "+name, d.Create(name), arg)
		is(t, "Rename to "+name, d.Rename("a", name), arg)
		is(t, "Rename of "+name, d.Rename(name, "b"), none)
		is(t, "Rename of and to "+name, d.Rename(name, name), none)
		is(t, "Append to "+name, d.Append(name, []byte("x")), none)
		is(t, "Append of too much to "+name, d.Append(name, make([]byte, 11)), none)
		is(t, "Sync "+name, d.Sync(name), none)
		is(t, "Remove "+name, d.Remove(name), none)
		_, e := d.Size(name)
		is(t, "Size of "+name, e, none)
		_, e = d.Read(name, -1, -1)
		is(t, "Read of "+name, e, none)
	}
	has(t, "what is refused", d, "a=")
}

// P7.1: Create: what there is, and MaxFiles.
func TestCreate(t *testing.T) {
	d := made(t, 0)
	for i := range api.MaxFiles {
		is(t, "Create", d.Create(fmt.Sprint("f", i)), ok)
	}
	is(t, "Create of one more", d.Create("one-more"), full)
	is(t, "Create of one that there is", d.Create("f0"), exist)
	is(t, "Create of no name", d.Create("F"), arg)
	is(t, "Create of no name", d.Create(""), arg)
	if n := len(d.List()); n != api.MaxFiles {
		t.Errorf("%d files", n)
	}
	is(t, "Rename to a new name", d.Rename("f0", "one-more"), ok)
	is(t, "Create of what is renamed", d.Create("f0"), full)
	is(t, "Rename to one that there is", d.Rename("f1", "f2"), ok)
	is(t, "Create, when there is room", d.Create("f1"), ok)
	is(t, "Create, when there is none", d.Create("f0"), full)
	is(t, "Remove", d.Remove("f1"), ok)
	is(t, "Create, when there is room", d.Create("f0"), ok)
	if l := d.List(); len(l) != api.MaxFiles || slices.Contains(l, "f1") || !slices.Contains(l, "f0") {
		t.Errorf("the files %v", l)
	}
}

// P7.1: Create of a file that there is, or was.
func TestCreateAgain(t *testing.T) {
	d := made(t, 100)
	put(t, d, "a", "abc", "def")
	is(t, "Create", d.Create("a"), exist)
	has(t, "Create again", d, "a=abcdef")
	is(t, "Remove", d.Remove("a"), ok)
	is(t, "Create", d.Create("a"), ok)
	has(t, "Create behind Remove", d, "a=")
	is(t, "Append", d.Append("a", []byte("ghijkl")), ok)
	lose(t, d, "a")
	d.Up(nil)
	has(t, "nothing of the file that was is safe", d, "a=")
}

// P7.1: Append stands behind, of each file its own.
func TestAppend(t *testing.T) {
	d := made(t, 100)
	is(t, "Append to none", d.Append("a", []byte("x")), none)
	is(t, "Create a", d.Create("a"), ok)
	is(t, "Create b", d.Create("b"), ok)
	for _, s := range []string{"ab", "", "c", "\x00\xff", "d"} {
		is(t, "Append", d.Append("a", []byte(s)), ok)
		is(t, "Append", d.Append("b", []byte(s+s)), ok)
	}
	is(t, "Append of nil", d.Append("a", nil), ok)
	has(t, "Append", d, "a=abc\x00\xffd b=ababcc\x00\xff\x00\xffdd")
}

// P7.1: Append: all files together have no more than the quota.
func TestAppendFull(t *testing.T) {
	d := made(t, 10)
	put(t, d, "a", "abc", "d")
	put(t, d, "b", "", "ef")
	is(t, "Append of one too many", d.Append("b", []byte("12345")), full)
	is(t, "Append of many too many", d.Append("a", make([]byte, 1<<24)), full)
	is(t, "Append to none", d.Append("c", []byte("12345")), none)
	has(t, "what is refused", d, "a=abcd b=ef")
	is(t, "Append of what has room", d.Append("b", []byte("1234")), ok)
	is(t, "Append of nothing", d.Append("a", nil), ok)
	is(t, "Append of one too many", d.Append("a", []byte("1")), full)
	is(t, "Create without room", d.Create("c"), ok)
	is(t, "Append of one too many", d.Append("c", []byte("1")), full)
	is(t, "Remove", d.Remove("a"), ok)
	is(t, "Append of what has room", d.Append("c", []byte("6789")), ok)
	is(t, "Append of one too many", d.Append("c", []byte("1")), full)
	is(t, "Rename over one", d.Rename("c", "b"), ok)
	is(t, "Append of one too many", d.Append("b", []byte("1234567")), full)
	is(t, "Append of what has room", d.Append("b", []byte("123456")), ok)
	has(t, "at last", d, "b=6789123456")
}

// P7.1: what is lost, is room again; what is kept, takes it up.
func TestRoomBehindUp(t *testing.T) {
	d := made(t, 10)
	put(t, d, "a", "abc", "defghij")
	lose(t, d, "a")
	if d.Used() != 10 {
		t.Errorf("Used() = %d, while the power is gone", d.Used())
	}
	d.Up([]int{2})
	is(t, "Append of one too many", d.Append("a", []byte("123456")), full)
	is(t, "Append of what has room", d.Append("a", []byte("12345")), ok)
	has(t, "at last", d, "a=abcde12345")
}

// P7.1: Sync makes safe what stands in the file then, and of the others nothing.
func TestSync(t *testing.T) {
	d := made(t, 100)
	is(t, "Sync of none", d.Sync("a"), none)
	put(t, d, "a", "ab", "cd")
	put(t, d, "b", "ef", "gh")
	is(t, "Sync", d.Sync("a"), ok)
	is(t, "Sync again", d.Sync("a"), ok)
	is(t, "Append", d.Append("a", []byte("ij")), ok)
	has(t, "Sync", d, "a=abcdij b=efgh")
	lose(t, d, "a")
	d.Up(nil)
	has(t, "Up", d, "a=abcd b=ef")
}

// P7.1: Rename hands over all of a file, safe or not, in the stead of what was there.
func TestRename(t *testing.T) {
	d := made(t, 100)
	is(t, "Rename of none", d.Rename("a", "b"), none)
	is(t, "Rename of none to no name", d.Rename("a", "B"), none)
	is(t, "Rename of none to itself", d.Rename("a", "a"), none)
	put(t, d, "a", "ab", "cd")
	put(t, d, "b", "efghi", "jkl")
	put(t, d, "c", "m", "")
	is(t, "Rename to no name", d.Rename("a", ""), arg)
	is(t, "Rename to a new one", d.Rename("a", "d"), ok)
	has(t, "Rename to a new one", d, "b=efghijkl c=m d=abcd")
	is(t, "Rename of what was", d.Rename("a", "b"), none)
	is(t, "Rename over one", d.Rename("d", "b"), ok)
	has(t, "Rename over one", d, "b=abcd c=m")
	is(t, "Append", d.Append("b", []byte("n")), ok)
	is(t, "Append to what was", d.Append("d", []byte("n")), none)
	lose(t, d, "c")
	d.Up(nil)
	has(t, "Up", d, "b=ab c=m")
}

// P7.1: Rename to the same name loses nothing.
func TestRenameToItself(t *testing.T) {
	d := made(t, 6)
	put(t, d, "a", "ab", "cd")
	is(t, "Rename to itself", d.Rename("a", "a"), ok)
	has(t, "Rename to itself", d, "a=abcd")
	is(t, "Append of one too many", d.Append("a", []byte("efg")), full)
	is(t, "Append", d.Append("a", []byte("ef")), ok)
	d.Arm(0)
	is(t, "Rename to itself as the power goes", d.Rename("a", "a"), down)
	d.Up([]int{1})
	has(t, "Up", d, "a=abc")
}

// P7.1: two files of one name, one behind the other, have nothing to do with one another.
func TestRenameAndCreate(t *testing.T) {
	d := made(t, 100)
	put(t, d, "a", "ab", "cd")
	is(t, "Rename", d.Rename("a", "b"), ok)
	is(t, "Create", d.Create("a"), ok)
	is(t, "Append", d.Append("a", []byte("xyz")), ok)
	is(t, "Append", d.Append("b", []byte("e")), ok)
	has(t, "both", d, "a=xyz b=abcde")
	is(t, "Remove", d.Remove("a"), ok)
	has(t, "one", d, "b=abcde")
}

// P7.1: Remove.
func TestRemove(t *testing.T) {
	d := made(t, 100)
	is(t, "Remove of none", d.Remove("a"), none)
	put(t, d, "a", "ab", "cd")
	put(t, d, "b", "ef", "")
	is(t, "Remove", d.Remove("a"), ok)
	has(t, "Remove", d, "b=ef")
	is(t, "Remove again", d.Remove("a"), none)
	is(t, "Append", d.Append("a", nil), none)
	is(t, "Sync", d.Sync("a"), none)
	is(t, "Rename", d.Rename("a", "c"), none)
	is(t, "Remove", d.Remove("b"), ok)
	has(t, "Remove of all", d, "")
}

// P7.2: Read, from each place on, of each length.
func TestRead(t *testing.T) {
	d := made(t, 100)
	put(t, d, "a", "abc", "def")
	is(t, "Create", d.Create("b"), ok)
	for at := range 9 {
		for n := range 9 {
			want := "abcdef"[min(at, 6):min(at+n, 6)]
			if b, e := d.Read("a", at, n); string(b) != want || e != ok {
				t.Errorf("Read(%d, %d) = %q %v, not %q", at, n, b, e, want)
			}
			if b, e := d.Read("b", at, n); len(b) != 0 || e != ok {
				t.Errorf("Read(%d, %d) of no bytes = %q %v", at, n, b, e)
			}
		}
	}
	most := math.MaxInt
	for _, c := range []struct {
		at, n int
		want  string
	}{{0, most, "abcdef"}, {1, most, "bcdef"}, {5, most, "f"}, {6, most, ""}, {7, most, ""}, {most, most, ""}, {most, 1, ""}, {most, 0, ""}, {most - 1, 5, ""}, {0, 1 << 32, "abcdef"}, {1 << 32, 3, ""}} {
		if b, e := d.Read("a", c.at, c.n); string(b) != c.want || e != ok {
			t.Errorf("Read(%d, %d) = %q %v, not %q", c.at, c.n, b, e, c.want)
		}
	}
}

// P7.2: Read's errors.
func TestReadErrors(t *testing.T) {
	d := made(t, 100)
	put(t, d, "a", "abc", "def")
	for _, k := range farNumbers() {
		for _, c := range [][2]int{{k, 0}, {k, 1}, {k, math.MaxInt}, {0, k}, {3, k}, {7, k}, {math.MaxInt, k}, {k, k}} {
			if b, e := d.Read("a", c[0], c[1]); len(b) != 0 || e != arg {
				t.Errorf("Read(%d, %d) = %q %v", c[0], c[1], b, e)
			}
			if b, e := d.Read("b", c[0], c[1]); len(b) != 0 || e != none {
				t.Errorf("Read(%d, %d) of no file = %q %v", c[0], c[1], b, e)
			}
		}
	}
	for _, name := range []string{"b", "", "A", "aa"} {
		if b, e := d.Read(name, 0, 1); len(b) != 0 || e != none {
			t.Errorf("Read of %q = %q %v", name, b, e)
		}
		if n, e := d.Size(name); n != 0 || e != none {
			t.Errorf("Size of %q = %d %v", name, n, e)
		}
	}
}

// P7.2: Size and Used, of what is safe and what is not.
func TestSizeAndUsed(t *testing.T) {
	d := made(t, 100)
	sizes := func(a, used int) {
		t.Helper()
		if n, e := d.Size("a"); n != a || e != ok {
			t.Errorf("Size = %d %v, not %d", n, e, a)
		}
		if d.Used() != used {
			t.Errorf("Used = %d, not %d", d.Used(), used)
		}
	}
	is(t, "Create", d.Create("a"), ok)
	sizes(0, 0)
	is(t, "Append", d.Append("a", []byte("abc")), ok)
	sizes(3, 3)
	put(t, d, "b", "abcde", "fg")
	sizes(3, 10)
	is(t, "Sync", d.Sync("a"), ok)
	sizes(3, 10)
	is(t, "Append", d.Append("a", []byte("d")), ok)
	sizes(4, 11)
	is(t, "Remove", d.Remove("b"), ok)
	sizes(4, 4)
}

// P7.2: List, rising, byte by byte, however the files came.
func TestList(t *testing.T) {
	want := []string{"-", "-.", ".", ".-", "..", "0", "00", "01", "1", "10", "2", "9", "9a", "a", "a-", "a-z", "a.", "a0", "aa", "ab", "b", "log-1", "log-10", "log-2", "z", "zz"}
	r := rand.New(rand.NewSource(1))
	for range 50 {
		d := made(t, 0)
		for _, i := range r.Perm(len(want)) {
			is(t, "Create", d.Create(want[i]), ok)
		}
		if got := d.List(); !slices.Equal(got, want) {
			t.Fatalf("List = %q, not %q", got, want)
		}
	}
}

// P7.2: Quota.
func TestQuota(t *testing.T) {
	d := made(t, 5)
	put(t, d, "a", "abc", "de")
	for _, q := range append(farNumbers(), 1<<24+1, 1<<32, math.MaxInt) {
		is(t, fmt.Sprint("Quota ", q), d.Quota(q), arg)
		is(t, "Append, refused as ahead of it", d.Append("a", []byte("f")), full)
	}
	is(t, "Quota", d.Quota(6), ok)
	is(t, "Append of too much", d.Append("a", []byte("fg")), full)
	is(t, "Append", d.Append("a", []byte("f")), ok)
	is(t, "Quota", d.Quota(1<<24+1), arg)
	is(t, "Append of too much", d.Append("a", []byte("g")), full)
	is(t, "Quota", d.Quota(1<<24), ok)
	is(t, "Append of too much", d.Append("a", make([]byte, 1<<24-5)), full)
	is(t, "Append", d.Append("a", []byte("g")), ok)
	has(t, "at last", d, "a=abcdefg")
}

// P7.2: a quota below what there is takes nothing away; nothing is appended, till there is room.
func TestQuotaBelowUsed(t *testing.T) {
	d := made(t, 20)
	put(t, d, "a", "abc", "de")
	put(t, d, "b", "fg", "hi")
	for _, q := range []int{8, 1, 0} {
		is(t, "Quota", d.Quota(q), ok)
		has(t, "Quota", d, "a=abcde b=fghi")
		is(t, "Append", d.Append("a", []byte("x")), full)
		is(t, "Append of nothing", d.Append("a", nil), full)
		is(t, "Append of nothing to none", d.Append("c", nil), none)
	}
	is(t, "Sync", d.Sync("a"), ok)
	is(t, "Rename", d.Rename("b", "c"), ok)
	is(t, "Create", d.Create("b"), ok)
	is(t, "Quota", d.Quota(5), ok)
	is(t, "Append of nothing", d.Append("b", nil), full)
	is(t, "Remove", d.Remove("c"), ok)
	is(t, "Append of nothing", d.Append("b", nil), ok)
	is(t, "Append", d.Append("b", []byte("x")), full)
	has(t, "at last", d, "a=abcde b=")
}

// deed is a call that would be OK on the disk of deedDisk, and what stands there behind it; behind it, and a loss of the power of which nothing is kept; where the power goes at it, and nothing is kept; and all is kept.
type deed struct {
	name                     string
	do                       func(d *disk.Disk) api.Errno
	done, lost, gone, atMost string
}

func deedDisk(t *testing.T) *disk.Disk {
	d := made(t, 20)
	put(t, d, "a", "abc", "de")
	put(t, d, "b", "f", "gh")
	put(t, d, "s", "ij", "")
	return d
}

func deeds() []deed {
	return []deed{
		{"Create", func(d *disk.Disk) api.Errno { return d.Create("c") }, "a=abcde b=fgh c= s=ij", "a=abc b=f c= s=ij", "a=abc b=f s=ij", "a=abcde b=fgh s=ij"},
		{"Append", func(d *disk.Disk) api.Errno { return d.Append("a", []byte("xy")) }, "a=abcdexy b=fgh s=ij", "a=abc b=f s=ij", "a=abc b=f s=ij", "a=abcdexy b=fgh s=ij"},
		{"Append to safe ones", func(d *disk.Disk) api.Errno { return d.Append("s", []byte("xy")) }, "a=abcde b=fgh s=ijxy", "a=abc b=f s=ij", "a=abc b=f s=ij", "a=abcde b=fgh s=ijxy"},
		{"Append of all that has room", func(d *disk.Disk) api.Errno { return d.Append("s", []byte("1234567890")) }, "a=abcde b=fgh s=ij1234567890", "a=abc b=f s=ij", "a=abc b=f s=ij", "a=abcde b=fgh s=ij1234567890"},
		{"Append of nothing", func(d *disk.Disk) api.Errno { return d.Append("a", nil) }, "a=abcde b=fgh s=ij", "a=abc b=f s=ij", "a=abc b=f s=ij", "a=abcde b=fgh s=ij"},
		{"Sync", func(d *disk.Disk) api.Errno { return d.Sync("a") }, "a=abcde b=fgh s=ij", "a=abcde b=f s=ij", "a=abc b=f s=ij", "a=abcde b=fgh s=ij"},
		{"Sync of what is safe", func(d *disk.Disk) api.Errno { return d.Sync("s") }, "a=abcde b=fgh s=ij", "a=abc b=f s=ij", "a=abc b=f s=ij", "a=abcde b=fgh s=ij"},
		{"Rename", func(d *disk.Disk) api.Errno { return d.Rename("a", "c") }, "b=fgh c=abcde s=ij", "b=f c=abc s=ij", "a=abc b=f s=ij", "a=abcde b=fgh s=ij"},
		{"Rename over one", func(d *disk.Disk) api.Errno { return d.Rename("a", "b") }, "b=abcde s=ij", "b=abc s=ij", "a=abc b=f s=ij", "a=abcde b=fgh s=ij"},
		{"Rename to itself", func(d *disk.Disk) api.Errno { return d.Rename("b", "b") }, "a=abcde b=fgh s=ij", "a=abc b=f s=ij", "a=abc b=f s=ij", "a=abcde b=fgh s=ij"},
		{"Remove", func(d *disk.Disk) api.Errno { return d.Remove("a") }, "b=fgh s=ij", "b=f s=ij", "a=abc b=f s=ij", "a=abcde b=fgh s=ij"},
	}
}

// all is a number by which files keep all of the bytes that are not safe, if they have at most 15: all numbers up to 16 divide the next one.
const all = 720720 - 1

// P7.3: each deed, with the power, without it, and as it goes.
func TestDeeds(t *testing.T) {
	for _, c := range deeds() {
		d := deedDisk(t)
		is(t, c.name, c.do(d), ok)
		has(t, c.name, d, c.done)
		lose(t, d, "s")
		d.Up(nil)
		has(t, c.name+", then the power goes", d, c.lost)
		for keep, want := range map[int]string{0: c.gone, all: c.atMost, 3*720720 - 1: c.atMost} {
			d = deedDisk(t)
			d.Arm(0)
			is(t, c.name+" as the power goes", c.do(d), down)
			if d.Alive() {
				t.Errorf("%s: the power is there", c.name)
			}
			d.Up([]int{keep})
			has(t, c.name+" as the power goes", d, want)
			lose(t, d, "s")
			d.Up(nil)
			has(t, c.name+": what was kept is safe", d, want)
		}
	}
}

// P7.3: as many deeds as Arm says are done, then the power goes.
func TestArmCounts(t *testing.T) {
	for after := range 13 {
		d := made(t, 100)
		d.Arm(after)
		calls := []api.Errno{}
		for _, do := range steps(d) {
			calls = append(calls, do())
		}
		want := slices.Concat(slices.Repeat([]api.Errno{ok}, after), slices.Repeat([]api.Errno{down}, len(calls)-after))
		if !slices.Equal(calls, want) {
			t.Errorf("Arm(%d): %v", after, calls)
		}
	}
	for _, after := range append(farNumbers(), 13, 14, 1000, math.MaxInt) {
		d := made(t, 100)
		d.Arm(after)
		for i, do := range steps(d) {
			is(t, fmt.Sprint("Arm ", after, " step ", i), do(), ok)
		}
		has(t, fmt.Sprint("Arm ", after), d, "a=xabc b=")
	}
}

// steps is thirteen calls that are OK, one behind the other, all kinds of deeds.
func steps(d *disk.Disk) []func() api.Errno {
	return []func() api.Errno{
		func() api.Errno { return d.Create("a") },
		func() api.Errno { return d.Append("a", []byte("x")) },
		func() api.Errno { return d.Sync("a") },
		func() api.Errno { return d.Create("b") },
		func() api.Errno { return d.Append("b", nil) },
		func() api.Errno { return d.Rename("b", "c") },
		func() api.Errno { return d.Rename("c", "c") },
		func() api.Errno { return d.Sync("c") },
		func() api.Errno { return d.Append("a", []byte("abc")) },
		func() api.Errno { return d.Remove("c") },
		func() api.Errno { return d.Create("b") },
		func() api.Errno { return d.Rename("a", "d") },
		func() api.Errno { return d.Rename("d", "a") },
	}
}

// P7.3: what is refused, and what is no deed, is not counted.
func TestArmCountsDeedsAlone(t *testing.T) {
	d := made(t, 4)
	put(t, d, "a", "abc", "d")
	d.Arm(1)
	for range 2 {
		is(t, "Create", d.Create("a"), exist)
		is(t, "Create", d.Create("A"), arg)
		is(t, "Append", d.Append("b", nil), none)
		is(t, "Append", d.Append("a", []byte("e")), full)
		is(t, "Sync", d.Sync("b"), none)
		is(t, "Rename", d.Rename("b", "a"), none)
		is(t, "Rename", d.Rename("a", "A"), arg)
		is(t, "Remove", d.Remove("b"), none)
		is(t, "Quota", d.Quota(4), ok)
		is(t, "Quota", d.Quota(-1), arg)
		_, e := d.Read("a", 0, 9)
		is(t, "Read", e, ok)
		_, e = d.Read("a", -1, 9)
		is(t, "Read", e, arg)
		has(t, "what is refused", d, "a=abcd")
	}
	is(t, "the deed ahead", d.Sync("a"), ok)
	for range 2 {
		is(t, "Create", d.Create("a"), exist)
		is(t, "Append", d.Append("a", []byte("e")), full)
		is(t, "Sync", d.Sync("b"), none)
		has(t, "what is refused", d, "a=abcd")
	}
	is(t, "the deed at which it goes", d.Remove("a"), down)
	d.Up(nil)
	has(t, "Up", d, "a=abcd")
}

// P7.3: a full number of files refuses Create ahead of the power's going.
func TestArmAndMaxFiles(t *testing.T) {
	d := made(t, 4)
	for i := range api.MaxFiles {
		is(t, "Create", d.Create(fmt.Sprint(i)), ok)
	}
	d.Arm(0)
	is(t, "Create of one more", d.Create("a"), full)
	if !d.Alive() {
		t.Error("the power went at what was refused")
	}
	is(t, "Remove", d.Remove("0"), down)
}

// P7.3: Arm again: the last one holds; below 0 it is not armed.
func TestArmAgain(t *testing.T) {
	for _, k := range farNumbers() {
		d := made(t, 4)
		d.Arm(0)
		d.Arm(k)
		is(t, "Create", d.Create("a"), ok)
		d.Arm(0)
		d.Arm(2)
		is(t, "Sync", d.Sync("a"), ok)
		d.Arm(1)
		is(t, "Sync", d.Sync("a"), ok)
		d.Arm(1)
		is(t, "Sync", d.Sync("a"), ok)
		d.Arm(k)
		is(t, "Sync", d.Sync("a"), ok)
		d.Arm(3)
		d.Arm(0)
		is(t, "Sync", d.Sync("a"), down)
	}
}

// P7.3: Up, where the power was there: nothing is armed any more, and nothing else is done.
func TestUpWithThePower(t *testing.T) {
	for _, keep := range [][]int{nil, {}, {0}, {1}, {-1, 5}} {
		d := deedDisk(t)
		d.Up(keep)
		has(t, "Up", d, "a=abcde b=fgh s=ij")
		for _, after := range []int{0, 1, 2, 7, math.MaxInt} {
			d.Arm(after)
			d.Up(keep)
			for range 4 {
				is(t, "Rename", d.Rename("a", "a"), ok)
			}
		}
		d.Arm(1)
		is(t, "Rename", d.Rename("a", "a"), ok)
		d.Up(keep)
		is(t, "Rename", d.Rename("a", "a"), ok)
		has(t, "Up, armed", d, "a=abcde b=fgh s=ij")
		lose(t, d, "s")
		d.Up(nil)
		has(t, "nothing was made safe", d, "a=abc b=f s=ij")
	}
}

// P7.3: Up, where the power was gone: it stays, till it is armed again.
func TestUpIsNotArmed(t *testing.T) {
	d := deedDisk(t)
	lose(t, d, "a")
	for _, after := range []int{0, 1, 5} {
		d.Arm(after)
	}
	if d.Alive() {
		t.Error("Arm brought the power back")
	}
	d.Up(nil)
	for range 10 {
		is(t, "Sync", d.Sync("a"), ok)
	}
	d.Arm(0)
	is(t, "Sync", d.Sync("a"), down)
	d.Arm(-1)
	if d.Alive() {
		t.Error("Arm brought the power back")
	}
	is(t, "Sync", d.Sync("a"), down)
}

// P7.3: while the power is gone, each call that has an error to tell tells ErrDown, whatever else is wrong.
func TestDown(t *testing.T) {
	d := deedDisk(t)
	lose(t, d, "a")
	for range 2 {
		for _, name := range append(badNames()[:9], "a", "b", "c", "s") {
			is(t, "Create "+name, d.Create(name), down)
			is(t, "Append to "+name, d.Append(name, []byte("x")), down)
			is(t, "Append to "+name, d.Append(name, nil), down)
			is(t, "Append to "+name, d.Append(name, make([]byte, 100)), down)
			is(t, "Sync "+name, d.Sync(name), down)
			is(t, "Rename "+name, d.Rename(name, "c"), down)
			is(t, "Rename "+name, d.Rename(name, "C"), down)
			is(t, "Rename to "+name, d.Rename("a", name), down)
			is(t, "Remove "+name, d.Remove(name), down)
			for _, c := range [][2]int{{0, 9}, {-1, 9}, {0, -1}, {0, 0}, {100, 1}} {
				if b, e := d.Read(name, c[0], c[1]); len(b) != 0 || e != down {
					t.Errorf("Read(%q) = %q %v", name, b, e)
				}
			}
			if n, e := d.Size(name); n != 0 || e != down {
				t.Errorf("Size(%q) = %d %v", name, n, e)
			}
		}
		for _, q := range []int{0, 5, 1 << 24, -1, 1<<24 + 1} {
			is(t, "Quota", d.Quota(q), down)
		}
		if l := d.List(); len(l) != 0 {
			t.Errorf("List = %q", l)
		}
		if d.Alive() || d.Used() != 10 {
			t.Errorf("Alive() = %v, Used() = %d", d.Alive(), d.Used())
		}
	}
	d.Up([]int{all})
	has(t, "Up", d, "a=abcde b=fgh s=ij")
	is(t, "the quota is as it was", d.Append("a", make([]byte, 11)), full)
	is(t, "the quota is as it was", d.Append("a", make([]byte, 10)), ok)
}

// P7.3: while the power is gone, Used counts what was appended as it went.
func TestUsedWhileDown(t *testing.T) {
	d := deedDisk(t)
	d.Arm(0)
	is(t, "Append", d.Append("s", []byte("xyz")), down)
	if d.Used() != 13 {
		t.Errorf("Used() = %d", d.Used())
	}
}

// P7.3: the document's example.
func TestUpExample(t *testing.T) {
	d := made(t, 100)
	is(t, "Create", d.Create("a"), ok)
	is(t, "Append", d.Append("a", []byte("abc")), ok)
	is(t, "Sync", d.Sync("a"), ok)
	d.Arm(0)
	is(t, "Append", d.Append("a", []byte("def")), down)
	d.Up([]int{1})
	has(t, "Up", d, "a=abcd")
}

// P7.3: how many bytes one file keeps, by each number.
func TestUpNumbers(t *testing.T) {
	for _, c := range []struct {
		keep []int
		want string
	}{
		{nil, "ab"}, {[]int{}, "ab"}, {[]int{0}, "ab"}, {[]int{1}, "abc"}, {[]int{2}, "abcd"}, {[]int{3}, "abcde"}, {[]int{4}, "ab"}, {[]int{5}, "abc"}, {[]int{7}, "abcde"}, {[]int{8}, "ab"},
		{[]int{-1}, "ab"}, {[]int{-2}, "abc"}, {[]int{-3}, "abcd"}, {[]int{-4}, "abcde"}, {[]int{-5}, "ab"}, {[]int{-6}, "abc"},
		{[]int{math.MaxInt}, "abcde"}, {[]int{math.MaxInt - 1}, "abcd"}, {[]int{math.MaxInt - 3}, "ab"}, {[]int{math.MinInt}, "abcde"}, {[]int{math.MinInt + 1}, "abcd"}, {[]int{math.MinInt + 3}, "ab"},
		{[]int{2, 0, 1}, "abcd"}, {[]int{0, 3, 3}, "ab"},
	} {
		d := made(t, 100)
		put(t, d, "f", "ab", "cde")
		d.Arm(0)
		is(t, "Sync", d.Sync("f"), down)
		d.Up(c.keep)
		has(t, fmt.Sprint("Up ", c.keep), d, "f="+c.want)
		is(t, "Append", d.Append("f", []byte("xyz")), ok)
		has(t, fmt.Sprint("Append behind Up ", c.keep), d, "f="+c.want+"xyz")
		lose(t, d, "f")
		d.Up(nil)
		has(t, fmt.Sprint("what is kept is safe ", c.keep), d, "f="+c.want)
	}
}

// P7.3: the numbers go round over the files that have bytes that are not safe, by their names.
func TestUpFiles(t *testing.T) {
	for _, c := range []struct {
		keep []int
		want string
	}{
		{nil, "a= c=cc d= e=ee g=gg"},
		{[]int{1}, "a=1 c=cc1 d= e=ee1 g=gg1"},
		{[]int{1, 0}, "a=1 c=cc d= e=ee1 g=gg"},
		{[]int{0, 1}, "a= c=cc1 d= e=ee g=gg1"},
		{[]int{1, 2, 3}, "a=1 c=cc12 d= e=ee123 g=gg1"},
		{[]int{4, 3, 2, 1}, "a= c=cc123 d= e=ee12 g=gg1"},
		{[]int{4, 3, 2, 1, 5, 6}, "a= c=cc123 d= e=ee12 g=gg1"},
		{[]int{5, 6, 7, 8}, "a=1 c=cc12 d= e=ee1234567 g=gg12"},
		{[]int{-1, -2, -3, -4}, "a= c=cc1 d= e=ee12 g=gg"},
		{[]int{2, -3}, "a=12 c=cc12 d= e=ee12 g=gg12"},
	} {
		d := made(t, 100)
		put(t, d, "x", "gg", "12")
		put(t, d, "e", "ee", "1234567")
		put(t, d, "h", "cc", "123")
		put(t, d, "d", "", "")
		put(t, d, "b", "bb", "b")
		put(t, d, "a", "", "123")
		put(t, d, "c", "cc", "c")
		is(t, "Rename", d.Rename("h", "c"), ok)
		is(t, "Rename", d.Rename("x", "g"), ok)
		d.Arm(1)
		is(t, "Remove", d.Remove("b"), ok)
		is(t, "Append", d.Append("d", nil), down)
		d.Up(c.keep)
		has(t, fmt.Sprint("Up ", c.keep), d, c.want)
	}
}

// P7.3: more files than numbers, by their names, not as they came: of each as many as its place says.
func TestUpManyFiles(t *testing.T) {
	r := rand.New(rand.NewSource(2))
	for range 20 {
		d := made(t, 1<<20)
		for _, i := range r.Perm(api.MaxFiles) {
			safe, loose := "s", strings.Repeat("u", 50)
			if i%3 == 0 {
				loose = ""
			}
			put(t, d, fmt.Sprintf("%03d", i), safe, loose)
		}
		lose(t, d, "000")
		keep := r.Perm(37)
		d.Up(keep)
		at := 0
		for i := range api.MaxFiles {
			want := 1
			if i%3 != 0 {
				want += keep[at%37]
				at++
			}
			if n, e := d.Size(fmt.Sprintf("%03d", i)); n != want || e != ok {
				t.Fatalf("%03d has %d bytes, not %d: %v", i, n, want, e)
			}
		}
	}
}

// P7.3: a call that tells ErrDown behind the deed at which the power went does nothing at all.
func TestNothingIsDoneWhileDown(t *testing.T) {
	for _, c := range deeds() {
		d := deedDisk(t)
		lose(t, d, "b")
		is(t, c.name, c.do(d), down)
		d.Up([]int{all})
		has(t, c.name, d, "a=abcde b=fgh s=ij")
	}
}

// R4: what is handed in is not changed, and not kept.
func TestHandedIn(t *testing.T) {
	d := made(t, 100)
	is(t, "Create", d.Create("a"), ok)
	b := []byte("abcdefgh")
	is(t, "Append", d.Append("a", b[:3]), ok)
	is(t, "Append", d.Append("a", []byte("xyz")), ok)
	if string(b) != "abcdefgh" {
		t.Errorf("the bytes handed in are %q", b)
	}
	copy(b, "--------")
	has(t, "the bytes handed in change", d, "a=abcxyz")
	lose(t, d, "a")
	keep := []int{-3, 5, 7}
	d.Up(keep[:1])
	if !slices.Equal(keep, []int{-3, 5, 7}) {
		t.Errorf("the numbers handed in are %v", keep)
	}
	keep[0] = 0
	has(t, "the numbers handed in change", d, "a=ab")
}

// R4: what is answered is new memory.
func TestAnswered(t *testing.T) {
	d := made(t, 100)
	put(t, d, "a", "abc", "def")
	put(t, d, "b", "g", "")
	for _, c := range [][2]int{{0, 100}, {0, 3}, {2, 2}, {3, 3}} {
		b, _ := d.Read("a", c[0], c[1])
		_ = append(b, "xyz"...)
		for i := range b {
			b[i] = '-'
		}
		has(t, "what was read changes", d, "a=abcdef b=g")
	}
	b, _ := d.Read("a", 0, 100)
	is(t, "Append", d.Append("a", []byte("x")), ok)
	lose(t, d, "a")
	d.Up(nil)
	is(t, "Append", d.Append("a", []byte("xyz")), ok)
	if string(b) != "abcdef" {
		t.Errorf("what was read is %q by now", b)
	}
	l := d.List()
	_ = append(l[:1], "c")
	l[0] = "z"
	has(t, "the names change", d, "a=abcxyz b=g")
	is(t, "Append of what was read", d.Append("b", b), ok)
	copy(b, "------")
	has(t, "what was read, and appended, changes", d, "a=abcxyz b=gabcdef")
}

// R5: disks have nothing to do with one another.
func TestTwoDisks(t *testing.T) {
	a, b := made(t, 10), made(t, 5)
	put(t, a, "x", "abc", "d")
	put(t, b, "x", "e", "f")
	lose(t, a, "x")
	is(t, "Append", b.Append("x", []byte("1234")), full)
	is(t, "Append", b.Append("x", []byte("123")), ok)
	a.Up(nil)
	has(t, "the one", a, "x=abc")
	has(t, "the other one", b, "x=ef123")
}

// one is a file as the slow disk has it: what is safe, and what is not.
type one struct {
	name, safe, loose string
}

// slow is a disk, said another way: a list of files, and of each what is safe apart from what is not.
type slow struct {
	files        []one
	quota, ahead int
	armed, gone  bool
}

// deed tells whether a deed is done, which nothing refuses.
func (s *slow) deed() bool {
	if s.armed && s.ahead == 0 {
		s.gone, s.armed = true, false
		return false
	}
	s.ahead--
	return true
}

func (s *slow) at(name string) int {
	return slices.IndexFunc(s.files, func(f one) bool { return f.name == name })
}

func (s *slow) used() int {
	n := 0
	for _, f := range s.files {
		n += len(f.safe + f.loose)
	}
	return n
}

func isName(s string) bool {
	return s != "" && len(s) <= 20 && strings.Trim(s, "abcdefghijklmnopqrstuvwxyz0123456789.-") == ""
}

// refuses is the error that a deed is refused by, if there is one.
func (s *slow) refuses(op int, name, other string, b []byte) api.Errno {
	at := s.at(name)
	switch {
	case s.gone:
		return down
	case op == 0 && !isName(name):
		return arg
	case op == 0 && at >= 0:
		return exist
	case op == 0 && len(s.files) == 400:
		return full
	case op != 0 && at < 0:
		return none
	case op == 1 && s.used()+len(b) > s.quota:
		return full
	case op == 3 && !isName(other):
		return arg
	}
	return ok
}

// call is the deed op: Create, Append, Sync, Rename, Remove.
func (s *slow) call(op int, name, other string, b []byte) api.Errno {
	if e := s.refuses(op, name, other, b); e != ok {
		return e
	}
	done := s.deed()
	at := s.at(name)
	if op == 1 {
		s.files[at].loose += string(b)
	}
	if !done {
		return down
	}
	switch op {
	case 0:
		s.files = append(s.files, one{name: name})
	case 2:
		s.files[at].safe, s.files[at].loose = s.files[at].safe+s.files[at].loose, ""
	case 3:
		f := s.files[at]
		f.name = other
		s.files = slices.DeleteFunc(s.files, func(g one) bool { return g.name == name || g.name == other })
		s.files = append(s.files, f)
	case 4:
		s.files = slices.Delete(s.files, at, at+1)
	}
	return ok
}

func (s *slow) arm(after int) {
	s.armed, s.ahead = after >= 0, after
}

func (s *slow) up(keep []int) {
	s.armed = false
	if !s.gone {
		return
	}
	s.gone = false
	slices.SortFunc(s.files, func(a, b one) int { return strings.Compare(a.name, b.name) })
	left := slices.Clone(keep)
	for i, f := range s.files {
		if f.loose == "" {
			continue
		}
		n := 0
		if len(keep) > 0 {
			if len(left) == 0 {
				left = slices.Clone(keep)
			}
			n, left = left[0], left[1:]
		}
		if n < 0 {
			n = ^n
		}
		s.files[i] = one{f.name, f.safe + f.loose[:n%(len(f.loose)+1)], ""}
	}
}

// tells is what tells tells.
func (s *slow) tells() string {
	var l []string
	for _, f := range s.files {
		l = append(l, f.name+"="+f.safe+f.loose)
	}
	slices.Sort(l)
	return strings.Join(l, " ")
}

// call is the deed op of a disk.
func call(d *disk.Disk, op int, name, other string, b []byte) api.Errno {
	switch op {
	case 0:
		return d.Create(name)
	case 1:
		return d.Append(name, b)
	case 2:
		return d.Sync(name)
	case 3:
		return d.Rename(name, other)
	}
	return d.Remove(name)
}

func anyName(r *rand.Rand) string {
	return []string{"a", "b", "c", "d", "a", "b", "c", "d", "e", "f.0", "-", "", "A"}[r.Intn(13)]
}

func anyBytes(r *rand.Rand) []byte {
	b := make([]byte, r.Intn(12))
	r.Read(b)
	return b
}

func anyKeep(r *rand.Rand) []int {
	l := make([]int, r.Intn(5))
	for i := range l {
		l[i] = r.Intn(40) - 20
		if r.Intn(10) == 0 {
			l[i] = []int{math.MinInt, math.MaxInt}[r.Intn(2)]
		}
	}
	return l
}

// sameReads fails, if the disk reads another thing than the slow one.
func sameReads(t *testing.T, d *disk.Disk, s *slow, name string, at, n int) {
	t.Helper()
	want, wantSize, wantE, wantSizeE := "", 0, ok, ok
	i := s.at(name)
	switch {
	case s.gone:
		wantE, wantSizeE = down, down
	case i < 0:
		wantE, wantSizeE = none, none
	case at < 0 || n < 0:
		wantE, wantSize = arg, len(s.files[i].safe+s.files[i].loose)
	default:
		all := s.files[i].safe + s.files[i].loose
		wantSize = len(all)
		for k := at; k < len(all) && k < at+n; k++ {
			want += all[k : k+1]
		}
	}
	if b, e := d.Read(name, at, n); string(b) != want || e != wantE {
		t.Fatalf("Read(%q, %d, %d) = %q %v, not %q %v", name, at, n, b, e, want, wantE)
	}
	if n, e := d.Size(name); n != wantSize || e != wantSizeE {
		t.Fatalf("Size(%q) = %d %v, not %d %v", name, n, e, wantSize, wantSizeE)
	}
}

// P7.1, P7.2, P7.3: long ways of all calls are told as the slow disk tells them.
func TestAgainstSlow(t *testing.T) {
	r := rand.New(rand.NewSource(3))
	for range 400 {
		quota := r.Intn(120)
		d, s := made(t, quota), &slow{quota: quota}
		for range 300 {
			switch k := r.Intn(40); {
			case k == 0:
				after := r.Intn(14) - 2
				d.Arm(after)
				s.arm(after)
			case k == 1 || s.gone && k < 10:
				keep := anyKeep(r)
				d.Up(keep)
				s.up(keep)
			case k == 2:
				q := r.Intn(150) - 3
				want := ok
				if s.gone {
					want = down
				} else if q < 0 {
					want = arg
				} else {
					s.quota = q
				}
				is(t, "Quota", d.Quota(q), want)
			case k < 6:
				sameReads(t, d, s, anyName(r), r.Intn(30)-2, r.Intn(30)-2)
			default:
				op, name, other, b := []int{0, 0, 1, 1, 1, 1, 2, 2, 3, 4}[r.Intn(10)], anyName(r), anyName(r), anyBytes(r)
				got, want := call(d, op, name, other, b), s.call(op, name, other, b)
				if got != want {
					t.Fatalf("deed %d of %q, %q, %d bytes: %v, not %v", op, name, other, len(b), got, want)
				}
			}
			if d.Alive() == s.gone || d.Used() != s.used() {
				t.Fatalf("Alive() = %v, Used() = %d, not %v, %d", d.Alive(), d.Used(), !s.gone, s.used())
			}
			if got := tells(t, orUp(d)); !s.gone && got != s.tells() {
				t.Fatalf("%q, not %q", got, s.tells())
			}
		}
	}
}

// orUp is the disk itself, or one without files, if the power is gone.
func orUp(d *disk.Disk) *disk.Disk {
	if d.Alive() {
		return d
	}
	return disk.New(0)
}

// told is what a file was told: what was synced, and what was appended in all.
type told struct {
	synced, whole []byte
}

// P7.4: what was synced stays, and of what was appended behind it a beginning, whatever deed the power goes at, and whatever is kept.
func TestSyncedStays(t *testing.T) {
	r := rand.New(rand.NewSource(4))
	for range 300 {
		d := made(t, 1<<20)
		files := map[string]*told{}
		for round := range 8 {
			d.Arm(r.Intn(30))
			for d.Alive() {
				name, other := string(rune('a'+r.Intn(4))), string(rune('a'+r.Intn(4)))
				work(r, d, files, name, other)
			}
			d.Up(anyKeep(r))
			if !slices.Equal(d.List(), rising(files)) {
				t.Fatalf("round %d: the files %q, not %q", round, d.List(), rising(files))
			}
			for name, f := range files {
				b, e := d.Read(name, 0, 1<<20)
				if e != ok || !bytes.HasPrefix(b, f.synced) || !bytes.HasPrefix(f.whole, b) {
					t.Fatalf("round %d: %s has %q, where %q was synced, %q appended: %v", round, name, b, f.synced, f.whole, e)
				}
				f.synced, f.whole = b, b
			}
		}
	}
}

// work does a deed, and keeps what it has told.
func work(r *rand.Rand, d *disk.Disk, files map[string]*told, name, other string) {
	f := files[name]
	switch k := r.Intn(10); {
	case k < 2:
		if d.Create(name) == ok {
			files[name] = &told{}
		}
	case k < 6:
		b := anyBytes(r)
		if e := d.Append(name, b); e == ok || e == down {
			f.whole = slices.Concat(f.whole, b)
		}
	case k < 8:
		if d.Sync(name) == ok {
			f.synced = f.whole
		}
	case k < 9:
		if d.Rename(name, other) == ok {
			delete(files, name)
			files[other] = f
		}
	default:
		if d.Remove(name) == ok {
			delete(files, name)
		}
	}
}

func rising(files map[string]*told) []string {
	var l []string
	for name := range files {
		l = append(l, name)
	}
	slices.Sort(l)
	return l
}

// P7.4: at each deed of a way, and for each number that is kept.
func TestSyncedStaysAtEachDeed(t *testing.T) {
	for after := range 15 {
		for keep := range 6 {
			d := made(t, 100)
			d.Arm(after)
			for _, do := range steps(d) {
				do()
			}
			d.Up([]int{keep})
			b, e := d.Read("a", 0, 100)
			if e == none {
				b, e = d.Read("d", 0, 100)
			}
			switch {
			case after == 0:
				is(t, "Read", e, none)
			case e != ok || !strings.HasPrefix("xabc", string(b)) || after > 2 && len(b) == 0:
				t.Errorf("%d deeds, %d kept: %q %v", after, keep, b, e)
			}
		}
	}
}

// R1, within the bound: many small appends end soon.
func TestManyAppends(t *testing.T) {
	d := made(t, api.MaxQuota)
	is(t, "Create", d.Create("a"), ok)
	b := bytes.Repeat([]byte("0123456789abcdef"), 16)
	for range api.MaxQuota / len(b) {
		if e := d.Append("a", b); e != ok {
			t.Fatal(e)
		}
	}
	is(t, "Append of one more", d.Append("a", b[:1]), full)
	got, e := d.Read("a", 0, math.MaxInt)
	if e != ok || !bytes.Equal(got, bytes.Repeat(b, api.MaxQuota/len(b))) {
		t.Errorf("%d bytes are read: %v", len(got), e)
	}
}
