package tree_test

import (
	"math"
	"math/rand"
	"slices"
	"testing"

	"duramen/api"
	"duramen/tree"
)

// first is the branch that has no parent.
var first = api.Branch{Parent: -1}

// fork is a branch of a parent, from an epoch on.
func fork(parent, epoch int) api.Branch {
	return api.Branch{Parent: parent, Fork: epoch, Floor: epoch}
}

// legs is a path: a branch and up to which epoch, one after the other.
func legs(n ...int) []api.Leg {
	var path []api.Leg
	for i := 0; i < len(n); i += 2 {
		path = append(path, api.Leg{Branch: n[i], Epoch: n[i+1]})
	}
	return path
}

// dropped is b, dropped.
func dropped(b api.Branch) api.Branch {
	b.Dropped = true
	return b
}

// family is some branches: 1 and 2 of 0, 3 and 4 of 1, 5 of 3, 6 of 2.
func family() []api.Branch {
	return []api.Branch{first, fork(0, 5), fork(0, 8), fork(1, 7), fork(1, 3), fork(3, 2), fork(2, 20)}
}

// grown is n branches, all but the first one told by what they are at their place.
func grown(n int, at func(place int) api.Branch) []api.Branch {
	l := []api.Branch{first}
	for len(l) < n {
		l = append(l, at(len(l)))
	}
	return l
}

// line is n branches, each of the one ahead of it, forked at an epoch that is one less each time, from 100 on.
func line(n int) []api.Branch {
	return grown(n, func(place int) api.Branch { return fork(place-1, 101-place) })
}

// star is n branches, all but the first one of that.
func star(n int) []api.Branch {
	return grown(n, func(place int) api.Branch { return fork(0, place) })
}

// notBranches is lists that may not be.
func notBranches() map[string][]api.Branch {
	return map[string][]api.Branch{
		"nil":                         nil,
		"none":                        {},
		"one more than 16":            line(17),
		"a star of one more than 16":  star(17),
		"many":                        star(1000),
		"the first one its own child": {{Parent: 0}},
		"the first one of another":    {{Parent: 1}, fork(0, 0)},
		"the first one of -2":         {{Parent: -2}},
		"the first one of the least":  {{Parent: math.MinInt}},
		"the first one of the most":   {{Parent: math.MaxInt}},
		"the first one forked":        {{Parent: -1, Fork: 1}},
		"the first one forked at -1":  {{Parent: -1, Fork: -1}},
		"the first one's floor -1":    {{Parent: -1, Floor: -1}},
		"the first one's floor 10001": {{Parent: -1, Floor: 10001}},
		"two without a parent":        {first, first},
		"of -2":                       {first, {Parent: -2}},
		"of the least":                {first, {Parent: math.MinInt}},
		"of itself":                   {first, {Parent: 1}},
		"of the one behind":           {first, {Parent: 2}, {Parent: 0}},
		"of one that is not there":    {first, {Parent: 0}, {Parent: 7}},
		"of the most":                 {first, {Parent: math.MaxInt}},
		"of one another":              {first, {Parent: 2}, {Parent: 1}},
		"the last one of itself":      append(star(15), fork(15, 0)),
		"forked at -1":                {first, {Parent: 0, Fork: -1}},
		"forked at 10001":             {first, {Parent: 0, Fork: 10001}},
		"forked at the least":         {first, {Parent: 0, Fork: math.MinInt}},
		"forked at the most":          {first, {Parent: 0, Fork: math.MaxInt}},
		"floor -1":                    {first, {Parent: 0, Floor: -1}},
		"floor 10001":                 {first, {Parent: 0, Floor: 10001}},
		"floor of the least":          {first, {Parent: 0, Floor: math.MinInt}},
		"floor of the most":           {first, {Parent: 0, Floor: math.MaxInt}},
		"a dropped one of itself":     {first, {Parent: 1, Dropped: true}},
		"a dropped one's floor -1":    {first, {Parent: 0, Floor: -1, Dropped: true}},
		"the middle one forked at -1": {first, fork(0, 1), fork(1, -1), fork(1, 1)},
		"the last one of 16 at 10001": append(star(15), fork(3, 10001)),
	}
}

// branches is lists that may be.
func branches() map[string][]api.Branch {
	return map[string][]api.Branch{
		"one":                          {first},
		"one with a floor":             {{Parent: -1, Floor: 1}},
		"one with the highest floor":   {{Parent: -1, Floor: 10000}},
		"one that is dropped":          {dropped(first)},
		"two":                          {first, fork(0, 5)},
		"forked at 0":                  {first, fork(0, 0)},
		"forked at 10000":              {first, fork(0, 10000)},
		"a floor behind the fork":      {first, {Parent: 0, Fork: 0, Floor: 10000}},
		"a floor ahead of the fork":    {first, {Parent: 0, Fork: 10000, Floor: 0}},
		"a fork ahead of the floor":    {{Parent: -1, Floor: 9}, {Parent: 0, Fork: 3, Floor: 3}},
		"a later fork of an early one": {first, fork(0, 3), fork(1, 9)},
		"one of a dropped one":         {first, dropped(fork(0, 3)), fork(1, 3)},
		"all dropped":                  {dropped(first), dropped(fork(0, 3)), dropped(fork(1, 3))},
		"a family":                     family(),
		"16 in a line":                 line(16),
		"16 in a star":                 star(16),
		"15 in a line":                 line(15),
	}
}

// P11.1: May.
func TestMay(t *testing.T) {
	for name, l := range branches() {
		if !tree.May(l) {
			t.Error(name, "may not be")
		}
	}
	for name, l := range notBranches() {
		if tree.May(l) {
			t.Error(name, "may be")
		}
	}
}

// mayAsWritten tells whether l may be, by the document's words.
func mayAsWritten(l []api.Branch) bool {
	ok := 1 <= len(l) && len(l) <= 16
	for i, b := range l {
		ok = ok && 0 <= b.Floor && b.Floor <= 10000 && 0 <= b.Fork && b.Fork <= 10000
		if i == 0 {
			ok = ok && b.Parent == -1 && b.Fork == 0
		} else {
			ok = ok && 0 <= b.Parent && b.Parent < i
		}
	}
	return ok
}

// eachList hands over all lists of at most long branches of kinds.
func eachList(kinds []api.Branch, long int, with func(l []api.Branch)) {
	var more func(l []api.Branch)
	more = func(l []api.Branch) {
		with(l)
		if len(l) == long {
			return
		}
		for _, b := range kinds {
			more(append(slices.Clip(l), b))
		}
	}
	more(nil)
}

// P11.1: May of all lists of a few branches that are at the edges.
func TestMayOfAllSmallLists(t *testing.T) {
	edges := []int{-1, 0, 10000, 10001}
	var kinds []api.Branch
	for parent := -2; parent <= 3; parent++ {
		for _, epoch := range edges {
			kinds = append(kinds, api.Branch{Parent: parent, Fork: epoch}, api.Branch{Parent: parent, Floor: epoch, Dropped: parent == 1})
		}
	}
	may := 0
	eachList(kinds, 3, func(l []api.Branch) {
		want := mayAsWritten(l)
		if tree.May(l) != want {
			t.Fatal(l, want)
		}
		if want {
			may++
		}
	})
	if may == 0 {
		t.Error("none may be")
	}
}

// P11.1: Path, with one fork.
func TestPath(t *testing.T) {
	two := []api.Branch{first, fork(0, 5)}
	for _, c := range []struct {
		branch, epoch int
		want          []api.Leg
	}{
		{1, 9, legs(1, 9, 0, 5)},
		{1, 6, legs(1, 6, 0, 5)},
		{1, 5, legs(1, 5, 0, 5)},
		{1, 4, legs(1, 4, 0, 4)},
		{1, 0, legs(1, 0, 0, 0)},
		{1, -1, legs(1, -1, 0, -1)},
		{1, 10000, legs(1, 10000, 0, 5)},
		{1, 10001, legs(1, 10001, 0, 5)},
		{1, math.MaxInt, legs(1, math.MaxInt, 0, 5)},
		{1, math.MinInt, legs(1, math.MinInt, 0, math.MinInt)},
		{0, 9, legs(0, 9)},
		{0, 0, legs(0, 0)},
		{0, -3, legs(0, -3)},
		{0, 10001, legs(0, 10001)},
		{-1, 9, nil},
		{2, 9, nil},
		{16, 9, nil},
		{math.MinInt, 9, nil},
		{math.MaxInt, 9, nil},
	} {
		if got := tree.Path(two, c.branch, c.epoch); !slices.Equal(got, c.want) {
			t.Errorf("the path of %d up to %d: %v", c.branch, c.epoch, got)
		}
	}
}

// P11.1: Path of branches that were forked of ones that were forked.
func TestPathOfMoreSteps(t *testing.T) {
	for _, c := range []struct {
		l             []api.Branch
		branch, epoch int
		want          []api.Leg
	}{
		{family(), 5, 9, legs(5, 9, 3, 2, 1, 2, 0, 2)},
		{family(), 5, 1, legs(5, 1, 3, 1, 1, 1, 0, 1)},
		{family(), 3, 9, legs(3, 9, 1, 7, 0, 5)},
		{family(), 3, 6, legs(3, 6, 1, 6, 0, 5)},
		{family(), 3, 4, legs(3, 4, 1, 4, 0, 4)},
		{family(), 4, 9, legs(4, 9, 1, 3, 0, 3)},
		{family(), 6, 99, legs(6, 99, 2, 20, 0, 8)},
		{family(), 6, 9, legs(6, 9, 2, 9, 0, 8)},
		{line(4), 3, 1000, legs(3, 1000, 2, 98, 1, 98, 0, 98)},
		{star(16), 15, 1000, legs(15, 1000, 0, 15)},
		{[]api.Branch{first, fork(0, 0), fork(1, 10000)}, 2, 10000, legs(2, 10000, 1, 10000, 0, 0)},
		{[]api.Branch{first, fork(0, 10000), fork(1, 0)}, 2, 10000, legs(2, 10000, 1, 0, 0, 0)},
		{[]api.Branch{first, fork(0, 10000)}, 1, 10001, legs(1, 10001, 0, 10000)},
	} {
		if got := tree.Path(c.l, c.branch, c.epoch); !slices.Equal(got, c.want) {
			t.Errorf("the path of %d up to %d: %v", c.branch, c.epoch, got)
		}
	}
	path := tree.Path(line(16), 15, 10000)
	if len(path) != 16 || path[0] != (api.Leg{Branch: 15, Epoch: 10000}) || path[1] != (api.Leg{Branch: 14, Epoch: 86}) || path[15] != (api.Leg{Branch: 0, Epoch: 86}) {
		t.Error("16 in a line:", path)
	}
}

// P11.1: a path hangs on no Floor, and on nobody's being dropped.
func TestPathOfDroppedBranches(t *testing.T) {
	for drop := range 1 << 7 {
		l := family()
		for i := range l {
			l[i].Dropped = drop>>i&1 == 1
			l[i].Floor = drop * 77
		}
		for branch := range l {
			if got, want := tree.Path(l, branch, 6), tree.Path(family(), branch, 6); len(got) == 0 || !slices.Equal(got, want) {
				t.Fatalf("the path of %d of %v: %v", branch, l, got)
			}
		}
	}
}

// P11.1, P11.2: of branches that may not be no path, none that is live, and none that is common.
func TestBranchesThatMayNotBe(t *testing.T) {
	for name, l := range notBranches() {
		for branch := -2; branch < len(l)+2; branch++ {
			if got := tree.Path(l, branch, 5); len(got) != 0 {
				t.Errorf("%s: the path of %d: %v", name, branch, got)
			}
			if tree.Live(l, branch) {
				t.Errorf("%s: %d is live", name, branch)
			}
			if got := tree.Common(l, branch, branch); got != -1 {
				t.Errorf("%s: common to %d: %d", name, branch, got)
			}
			if got := tree.Common(l, branch, 0); got != -1 {
				t.Errorf("%s: common to %d and 0: %d", name, branch, got)
			}
		}
	}
}

// P11.1: Sees.
func TestSees(t *testing.T) {
	two := legs(1, 9, 0, 5)
	twice := legs(1, 3, 1, 7, 0, 2, 1, 5)
	for _, c := range []struct {
		path          []api.Leg
		branch, epoch int
		want          bool
	}{
		{two, 1, 8, true},
		{two, 1, 9, true},
		{two, 1, 10, false},
		{two, 0, 4, true},
		{two, 0, 5, true},
		{two, 0, 6, false},
		{two, 0, 9, false},
		{two, 0, 0, true},
		{two, 1, 0, true},
		{two, 2, 0, false},
		{two, -1, 0, false},
		{two, 0, -1, true},
		{two, 1, math.MinInt, true},
		{two, 1, math.MaxInt, false},
		{two, 5, 0, false},
		{two, 9, 1, false},
		{nil, 0, 0, false},
		{nil, 0, -1, false},
		{[]api.Leg{}, 0, 0, false},
		{[]api.Leg{{}}, 0, 0, true},
		{[]api.Leg{{}}, 0, 1, false},
		{twice, 1, 7, true},
		{twice, 1, 4, true},
		{twice, 1, 8, false},
		{twice, 0, 2, true},
		{twice, 0, 3, false},
		{legs(-4, -2), -4, -2, true},
		{legs(-4, -2), -4, -1, false},
		{legs(99, math.MaxInt), 99, math.MaxInt, true},
		{legs(99, math.MinInt), 99, math.MinInt, true},
	} {
		for _, seq := range []int{0, 1, -1, 100000, math.MaxInt, math.MinInt} {
			s := api.Stamp{Branch: c.branch, Epoch: c.epoch, Seq: seq}
			if got := tree.Sees(c.path, s); got != c.want {
				t.Errorf("%v sees %v: %v", c.path, s, got)
			}
		}
	}
}

// pathAsWritten is a path, by the document's words, of a branch that is there.
func pathAsWritten(l []api.Branch, branch, e int) []api.Leg {
	path := legs(branch, e)
	if branch == 0 {
		return path
	}
	lesser := l[branch].Fork
	if e < lesser {
		lesser = e
	}
	return append(path, pathAsWritten(l, l[branch].Parent, lesser)...)
}

// seesAsWritten tells whether a branch sees a stamp up to an epoch: one of its own, or what its parent sees up to the fork.
func seesAsWritten(l []api.Branch, branch, e int, s api.Stamp) bool {
	if s.Epoch > e {
		return false
	}
	if s.Branch == branch {
		return true
	}
	return branch != 0 && s.Epoch <= l[branch].Fork && seesAsWritten(l, l[branch].Parent, e, s)
}

// eachTree hands over all trees of n branches, forked at epochs ahead of epochs.
func eachTree(n, epochs int, with func(l []api.Branch)) {
	var more func(l []api.Branch)
	more = func(l []api.Branch) {
		if len(l) == n {
			with(l)
			return
		}
		for parent := range l {
			for epoch := range epochs {
				more(append(slices.Clip(l), fork(parent, epoch)))
			}
		}
	}
	more([]api.Branch{first})
}

// P11.1: what each branch of all small trees sees.
func TestAllSmallTrees(t *testing.T) {
	for n := 1; n <= 4; n++ {
		eachTree(n, 4, func(l []api.Branch) {
			for branch := range l {
				for e := range 5 {
					path := tree.Path(l, branch, e)
					if !slices.Equal(path, pathAsWritten(l, branch, e)) {
						t.Fatal(l, branch, e, path)
					}
					checkSees(t, l, branch, e, path)
				}
			}
		})
	}
}

// checkSees tests what path, that of a branch of l up to e, sees.
func checkSees(t *testing.T, l []api.Branch, branch, e int, path []api.Leg) {
	t.Helper()
	for of := range l {
		for epoch := range 5 {
			s := api.Stamp{Branch: of, Epoch: epoch, Seq: 1}
			if got, want := tree.Sees(path, s), seesAsWritten(l, branch, e, s); got != want {
				t.Fatal(l, branch, e, s, got)
			}
		}
	}
}

// anyTree is some branches.
func anyTree(r *rand.Rand) []api.Branch {
	l := []api.Branch{{Parent: -1, Floor: r.Intn(10001), Dropped: r.Intn(9) == 0}}
	for range r.Intn(16) {
		l = append(l, api.Branch{Parent: r.Intn(len(l)), Fork: r.Intn(10001), Floor: r.Intn(10001), Dropped: r.Intn(3) == 0})
	}
	return l
}

// P11.1: the paths of any branches.
func TestAnyPath(t *testing.T) {
	r := rand.New(rand.NewSource(1))
	for range 5000 {
		l := anyTree(r)
		if !tree.May(l) {
			t.Fatal(l, "may not be")
		}
		branch, e := r.Intn(len(l)), r.Intn(12000)-1000
		if got := tree.Path(l, branch, e); !slices.Equal(got, pathAsWritten(l, branch, e)) {
			t.Fatal(l, branch, e, got)
		}
	}
}

// P11.2: Kids.
func TestKids(t *testing.T) {
	someDropped := family()
	someDropped[1].Dropped, someDropped[4].Dropped, someDropped[6].Dropped = true, true, true
	for _, c := range []struct {
		name   string
		l      []api.Branch
		branch int
		want   []int
	}{
		{"a family", family(), 0, []int{1, 2}},
		{"a family", family(), 1, []int{3, 4}},
		{"a family", family(), 2, []int{6}},
		{"a family", family(), 3, []int{5}},
		{"a family", family(), 4, nil},
		{"a family", family(), 6, nil},
		{"a family", family(), 7, nil},
		{"a family", family(), -1, nil},
		{"a family", family(), -2, nil},
		{"a family", family(), math.MinInt, nil},
		{"a family", family(), math.MaxInt, nil},
		{"a family, some dropped", someDropped, 0, []int{2}},
		{"a family, some dropped", someDropped, 1, []int{3}},
		{"a family, some dropped", someDropped, 2, nil},
		{"a family, some dropped", someDropped, 3, []int{5}},
		{"a family, some dropped", someDropped, -1, nil},
		{"one", []api.Branch{first}, 0, nil},
		{"one", []api.Branch{first}, -1, nil},
		{"none", nil, 0, nil},
		{"none", []api.Branch{}, -1, nil},
		{"16 in a star", star(16), 0, []int{1, 2, 3, 4, 5, 6, 7, 8, 9, 10, 11, 12, 13, 14, 15}},
		{"16 in a star", star(16), 15, nil},
		{"16 in a line", line(16), 14, []int{15}},
		{"of a dropped one", []api.Branch{dropped(first), fork(0, 1), dropped(fork(0, 1)), fork(0, 1)}, 0, []int{1, 3}},
	} {
		if got := tree.Kids(c.l, c.branch); !slices.Equal(got, c.want) {
			t.Errorf("%s: the kids of %d: %v", c.name, c.branch, got)
		}
	}
}

// P11.2: Kids has no words for branches that may not be, and so tells those whose Parent is the number, there too; of one below 0 none.
func TestKidsOfBranchesThatMayNotBe(t *testing.T) {
	for name, l := range notBranches() {
		for branch := -3; branch < len(l)+9; branch++ {
			var want []int
			for i := 0; i < len(l) && branch >= 0; i++ {
				if l[i].Parent == branch && !l[i].Dropped {
					want = append(want, i)
				}
			}
			if got := tree.Kids(l, branch); !slices.Equal(got, want) {
				t.Errorf("%s: the kids of %d: %v", name, branch, got)
			}
		}
	}
}

// P11.2: Live.
func TestLive(t *testing.T) {
	l := family()
	l[2].Dropped, l[6].Dropped = true, true
	for branch, want := range map[int]bool{0: true, 1: true, 2: false, 3: true, 4: true, 5: true, 6: false, 7: false, -1: false, -7: false, math.MaxInt: false, math.MinInt: false} {
		if got := tree.Live(l, branch); got != want {
			t.Errorf("%d is live: %v", branch, got)
		}
	}
	for name, l := range branches() {
		for branch, b := range l {
			if tree.Live(l, branch) == b.Dropped {
				t.Errorf("%s: %d", name, branch)
			}
		}
		if tree.Live(l, len(l)) || tree.Live(l, -1) {
			t.Errorf("%s: one that is not there is live", name)
		}
	}
	if tree.Live([]api.Branch{dropped(first)}, 0) {
		t.Error("the first one, dropped, is live")
	}
	if !tree.Live([]api.Branch{dropped(first), fork(0, 2)}, 1) {
		t.Error("one of a dropped one is not live")
	}
}

// P11.2: Common.
func TestCommon(t *testing.T) {
	for _, c := range []struct{ a, b, want int }{
		{0, 0, 0}, {1, 1, 1}, {5, 5, 5},
		{0, 1, 0}, {1, 0, 0}, {0, 6, 0}, {5, 0, 0},
		{1, 2, 0}, {2, 1, 0},
		{1, 3, 1}, {3, 1, 1}, {3, 4, 1}, {4, 3, 1},
		{5, 4, 1}, {4, 5, 1}, {5, 3, 3}, {3, 5, 3}, {1, 5, 1}, {5, 1, 1},
		{5, 6, 0}, {6, 5, 0}, {6, 2, 2}, {2, 6, 2}, {4, 2, 0},
		{-1, 0, -1}, {0, -1, -1}, {-1, -1, -1}, {7, 0, -1}, {0, 7, -1}, {7, 7, -1}, {7, -1, -1},
		{math.MaxInt, 1, -1}, {1, math.MaxInt, -1}, {math.MinInt, 1, -1}, {1, math.MinInt, -1},
	} {
		if got := tree.Common(family(), c.a, c.b); got != c.want {
			t.Errorf("common to %d and %d: %d", c.a, c.b, got)
		}
		l := family()
		for i := range l {
			l[i].Dropped, l[i].Fork = true, 0
		}
		if got := tree.Common(l, c.a, c.b); got != c.want {
			t.Errorf("common to %d and %d, dropped: %d", c.a, c.b, got)
		}
	}
	for a := range 16 {
		for b := range 16 {
			if got := tree.Common(line(16), a, b); got != min(a, b) {
				t.Errorf("common to %d and %d, in a line: %d", a, b, got)
			}
		}
	}
	if got := tree.Common(nil, 0, 0); got != -1 {
		t.Error("common in none:", got)
	}
}

// above is the branch and all above it, nearest first.
func above(l []api.Branch, branch int) []int {
	if branch < 0 {
		return nil
	}
	return append([]int{branch}, above(l, l[branch].Parent)...)
}

// P11.2: what Kids and Common tell of any branches.
func TestAnyKidsAndCommon(t *testing.T) {
	r := rand.New(rand.NewSource(2))
	for range 1000 {
		l := anyTree(r)
		kids := make([][]int, len(l))
		for i, b := range l {
			if i > 0 && !b.Dropped {
				kids[b.Parent] = append(kids[b.Parent], i)
			}
		}
		for a := range l {
			if got := tree.Kids(l, a); !slices.Equal(got, kids[a]) {
				t.Fatal(l, a, got)
			}
			for b := range l {
				of := above(l, b)
				want := above(l, a)[slices.IndexFunc(above(l, a), func(x int) bool { return slices.Contains(of, x) })]
				if got := tree.Common(l, a, b); got != want {
					t.Fatal(l, a, b, got)
				}
			}
		}
	}
}

// P11.3: what a branch sees up to an epoch it sees up to a later one.
func TestLaterSeesMore(t *testing.T) {
	eachTree(4, 3, func(l []api.Branch) {
		for branch := range l {
			for e := range 4 {
				checkLater(t, l, branch, e, e+1, 4)
			}
		}
	})
	r := rand.New(rand.NewSource(3))
	for range 300 {
		l := anyTree(r)
		e := r.Intn(10001)
		checkLater(t, l, r.Intn(len(l)), e, e+r.Intn(10001-e), 10002)
	}
	checkLater(t, family(), 5, math.MinInt, math.MaxInt, 30)
}

// checkLater tests that a branch sees up to later, at epochs ahead of epochs, all that it sees up to e.
func checkLater(t *testing.T, l []api.Branch, branch, e, later, epochs int) {
	t.Helper()
	now, then := tree.Path(l, branch, e), tree.Path(l, branch, later)
	if len(now) == 0 || len(now) != len(then) {
		t.Fatal(l, branch, e, now, then)
	}
	for of := range l {
		for epoch := 0; epoch < epochs; epoch += 1 + epochs/50 {
			s := api.Stamp{Branch: of, Epoch: epoch}
			if tree.Sees(now, s) && !tree.Sees(then, s) {
				t.Fatal(l, branch, e, later, s)
			}
		}
	}
}

// P11.3: what a branch sees up to its fork, of what is not its own, is what its parent sees up to there.
func TestForkSeesItsParent(t *testing.T) {
	r := rand.New(rand.NewSource(4))
	for range 2000 {
		l := anyTree(r)
		for branch := 1; branch < len(l); branch++ {
			e := l[branch].Fork + r.Intn(50)
			path, parent := tree.Path(l, branch, e), tree.Path(l, l[branch].Parent, l[branch].Fork)
			if !slices.Equal(path[1:], parent) {
				t.Fatal(l, branch, e, path, parent)
			}
		}
	}
}

// R4: what is handed in is not changed, its spare room neither.
func TestNothingIsChanged(t *testing.T) {
	spare := api.Branch{Parent: 77, Fork: 78, Floor: 79}
	l := append(family(), spare, spare)
	was := slices.Clone(l)
	handed := l[:7]
	path := legs(1, 9, 0, 5, 77, 77)
	wasPath := slices.Clone(path)
	tree.May(handed)
	for branch := -1; branch < 9; branch++ {
		tree.Path(handed, branch, 6)
		tree.Kids(handed, branch)
		tree.Live(handed, branch)
		tree.Common(handed, branch, 5)
		tree.Common(handed, 5, branch)
		tree.Sees(path[:2], api.Stamp{Branch: branch, Epoch: 3})
	}
	if !slices.Equal(l, was) || !slices.Equal(path, wasPath) {
		t.Error(l, path)
	}
}

// R4: answers are new memory.
func TestAnswersAreNewMemory(t *testing.T) {
	l := family()
	a, b := tree.Path(l, 5, 9), tree.Path(l, 5, 9)
	for i := range a {
		a[i] = api.Leg{Branch: 50, Epoch: 50}
	}
	if want := legs(5, 9, 3, 2, 1, 2, 0, 2); !slices.Equal(b, want) || !slices.Equal(tree.Path(l, 5, 9), want) {
		t.Error(b)
	}
	k, m := tree.Kids(l, 0), tree.Kids(l, 0)
	k[0], k[1] = 50, 50
	if want := []int{1, 2}; !slices.Equal(m, want) || !slices.Equal(tree.Kids(l, 0), want) {
		t.Error(m)
	}
}

// R4, R5: nothing of what was handed in is kept; asked anew, of what is other now, the answer is another one.
func TestNothingIsKept(t *testing.T) {
	l := family()
	path, kids := tree.Path(l, 5, 9), tree.Kids(l, 0)
	l[5], l[1] = fork(2, 1), dropped(fork(0, 0))
	if want := legs(5, 9, 3, 2, 1, 2, 0, 2); !slices.Equal(path, want) {
		t.Error(path)
	}
	if !slices.Equal(kids, []int{1, 2}) {
		t.Error(kids)
	}
	if got := tree.Path(l, 5, 9); !slices.Equal(got, legs(5, 9, 2, 1, 0, 1)) {
		t.Error(got)
	}
	if got := tree.Kids(l, 0); !slices.Equal(got, []int{2}) {
		t.Error(got)
	}
	if tree.Live(l, 1) || tree.Common(l, 5, 3) != 0 {
		t.Error("what was asked of other branches")
	}
}
