package tests

import (
	"fmt"
	"math"
	"slices"
	"strings"
	"testing"

	"loop.example/g00588/impl"
)

// edgeValues are values at the limits of entries of all kinds and of an int.
var edgeValues = []int{
	math.MinInt, math.MinInt + 1, -1 << 32, -modulus, -1000000, -999999, -7, -1, 0, 1, 7, 999998, 999999, 1000000, 1000001,
	modulus - 2, modulus - 1, modulus, modulus + 1, 2*modulus - 1, 1 << 31, 1 << 32, 1<<32 + 7, impl.MaxValue, math.MaxInt - 1, math.MaxInt,
}

// edgeKinds are the three kinds and others, some of which are equal to one of
// them in fewer bits.
var edgeKinds = []int{1, 2, 3, 0, 4, 5, -1, -2, -3, -4, 255, 257, 258, 259, 1 << 16, 1<<16 + 1, 1 << 32, 1<<32 + 1, 1<<32 + 2, 1<<32 + 3, modulus + 1, math.MinInt, math.MinInt + 1, math.MaxInt}

// entryOf returns an entry that may be valid or not.
func entryOf(label string, kind int, value int, path ...string) impl.Entry {
	return impl.Entry{Label: label, Kind: kind, Value: value, Path: path}
}

// shown is an entry in a message of a test, cut off where it is long.
func shown(e impl.Entry) string {
	return fmt.Sprintf("{%.40q %d %d %.40q}", e.Label, e.Kind, e.Value, e.Path[:min(len(e.Path), 10)])
}

// greatestOf is the greatest value of an entry of one of the three kinds.
func greatestOf(kind int) int {
	if kind == 1 {
		return 999999
	}
	return modulus - 1
}

// isEntryByRule follows the document's words.
func isEntryByRule(e impl.Entry) bool {
	if !labelForm.MatchString(e.Label) || !slices.Contains([]int{1, 2, 3}, e.Kind) || e.Value < 0 || e.Value > greatestOf(e.Kind) {
		return false
	}
	return e.Kind == 3 && isPathByRule(e.Path) || e.Kind != 3 && len(e.Path) == 0
}

func entryIntsByRule(e impl.Entry) []int {
	parts := [][]int{valuesOf(e.Label), {e.Kind}, {e.Value}, {len(e.Path)}}
	for _, s := range e.Path {
		parts = append(parts, valuesOf(s))
	}
	return slices.Concat(parts...)
}

func leafByRule(e impl.Entry) int {
	return hashByRule(slices.Concat([]int{227}, entryIntsByRule(e)))
}

func equalByRule(a impl.Entry, b impl.Entry) bool {
	return a.Label == b.Label && a.Kind == b.Kind && a.Value == b.Value && slices.Equal(a.Path, b.Path)
}

// entryLabels are strings of all sorts, some the beginning of others, some with
// the bytes that lengths and kinds have.
var entryLabels = []string{"ann", "bob", "a", "ab", "b", "abcdefgh", "0-9", "", "abcdefghi", "A", "a-", "\x00", "\x01", "\x01a", "a\x01", "a\x01\x07\x00", "\xff\x80", "\u00e9"}

// entryPaths are paths of all lengths and lists that are no path.
func entryPaths() [][]string {
	return [][]string{
		nil, {}, {"a"}, {"b"}, {"ab"}, {"abcdefgh"}, {"a", "b"}, {"b", "a"}, {"a", "a"}, {"x", "y"}, {"ab", "c"}, {"a", "bc"}, {"a", "b", "c"}, {"a", "b", "c", "d"}, {"abcdefgh", "abcdefgh", "abcdefgh", "abcdefgh"},
		{"a", "b", "c", "d", "e"}, {""}, {"", ""}, {"a", ""}, {"", "a"}, {"A"}, {"a/b"}, {"abcdefghi"}, {"a", "b", "c", "-"}, {"\xff"}, {"\x00", "\x01"}, slices.Repeat([]string{"a"}, 40),
	}
}

// someEntries are entries of all labels, kinds and paths above, with values
// that differ; there are no two equal ones but those with nil and empty Path.
func someEntries() []impl.Entry {
	all := []impl.Entry{}
	for i, label := range entryLabels {
		for _, kind := range []int{1, 2, 3, 0, 4, -1} {
			for j, path := range entryPaths() {
				values := []int{0, 7, 999999 + j%2, edgeValues[(i+j)%len(edgeValues)]}
				for _, value := range slices.Compact(slices.Sorted(slices.Values(values))) {
					all = append(all, entryOf(label, kind, value, path...))
				}
			}
		}
	}
	return all
}

// validEntries are valid entries of all kinds, no two of them equal.
func validEntries() []impl.Entry {
	all := []impl.Entry{}
	for _, label := range []string{"a", "b", "ab", "0", "o", "a-b", "ann", "abcdefg", "abcdefgh"} {
		for _, value := range []int{0, 1, 2, 97, 999998, 999999, 1000000, modulus - 2, modulus - 1} {
			if value <= 999999 {
				all = append(all, impl.ValueEntry(label, value))
			}
			all = append(all, impl.ZoneEntry(label, value))
			visitLists(2, []string{"a", "b", "ab", "0"}, func(p []string) {
				if len(p) > 0 {
					all = append(all, impl.MovedEntry(label, value, p), impl.MovedEntry(label, value, append(p, "x", "abcdefgh")))
				}
			})
		}
	}
	return all
}

// changedEntries are e with one field changed: another label, kind or value,
// an element of Path more, less or changed, or two of them the other way round.
func changedEntries(e impl.Entry) []impl.Entry {
	changed := []impl.Entry{}
	for _, label := range []string{e.Label + "a", "a" + e.Label, e.Label + "\x00", strings.ToUpper(e.Label), e.Label[:len(e.Label)/2]} {
		changed = append(changed, entryOf(label, e.Kind, e.Value, e.Path...))
	}
	for _, add := range []int{-2, -1, 1, 2, 3} {
		changed = append(changed, entryOf(e.Label, e.Kind+add, e.Value, e.Path...))
	}
	for _, add := range []int{-1000000, -256, -1, 1, 2, 256, 1000000} {
		changed = append(changed, entryOf(e.Label, e.Kind, e.Value+add, e.Path...))
	}
	for i := range len(e.Path) + 1 {
		for _, s := range []string{"a", "ab", "z", ""} {
			changed = append(changed, entryOf(e.Label, e.Kind, e.Value, slices.Insert(slices.Clone(e.Path), i, s)...))
		}
	}
	for i, s := range e.Path {
		changed = append(changed, entryOf(e.Label, e.Kind, e.Value, slices.Delete(slices.Clone(e.Path), i, i+1)...))
		for _, other := range []string{s + "a", "a" + s, "z", "", e.Path[0] + "-", e.Path[len(e.Path)-1]} {
			path := slices.Clone(e.Path)
			path[i] = other
			changed = append(changed, entryOf(e.Label, e.Kind, e.Value, path...))
		}
	}
	reversed := slices.Clone(e.Path)
	slices.Reverse(reversed)
	changed = append(changed, entryOf(e.Label, e.Kind, e.Value, reversed...))
	return slices.DeleteFunc(changed, func(other impl.Entry) bool { return equalByRule(e, other) })
}

// checkApart fails unless everything tells a and b apart.
func checkApart(t *testing.T, a impl.Entry, b impl.Entry) {
	t.Helper()
	if impl.EqualEntries(a, b) || impl.EqualEntries(b, a) {
		t.Errorf("%s and %s are equal", shown(a), shown(b))
	}
	if slices.Equal(impl.EntryInts(a), impl.EntryInts(b)) {
		t.Errorf("%s and %s have the same numbers", shown(a), shown(b))
	}
	if impl.LeafOf(a) == impl.LeafOf(b) {
		t.Errorf("%s and %s have the same leaf", shown(a), shown(b))
	}
}

// checkSame fails if anything tells a and b apart.
func checkSame(t *testing.T, a impl.Entry, b impl.Entry) {
	t.Helper()
	if !impl.EqualEntries(a, b) || !impl.EqualEntries(b, a) || !slices.Equal(impl.EntryInts(a), impl.EntryInts(b)) || impl.LeafOf(a) != impl.LeafOf(b) || impl.IsEntry(a) != impl.IsEntry(b) {
		t.Errorf("%s and %s are told apart", shown(a), shown(b))
	}
}

func TestEntryConstants(t *testing.T) {
	if impl.EnValue != 1 || impl.EnZone != 2 || impl.EnMoved != 3 || impl.MaxNumber != 999999 {
		t.Errorf("the kinds are %d, %d and %d, MaxNumber is %d", impl.EnValue, impl.EnZone, impl.EnMoved, impl.MaxNumber)
	}
}

func TestEntriesAreToldApartByTheirLeaves(t *testing.T) {
	all := validEntries()
	for _, e := range all {
		if !impl.IsEntry(e) {
			t.Fatalf("%s is not valid", shown(e))
		}
	}
	ofLeaf := map[int]impl.Entry{}
	for i, e := range all {
		leaf := impl.LeafOf(e)
		if other, found := ofLeaf[leaf]; found {
			t.Errorf("%s and %s have the leaf %d", shown(e), shown(other), leaf)
		}
		ofLeaf[leaf] = e
		for _, other := range all[max(0, i-200):i] {
			checkApart(t, e, other)
		}
	}
}

func TestEntriesWithOneFieldChanged(t *testing.T) {
	for _, e := range slices.Concat(validEntries(), someEntries()) {
		e.Path = e.Path[:min(len(e.Path), 6)]
		for _, other := range changedEntries(e) {
			checkApart(t, e, other)
		}
	}
}

func TestEntriesThatDifferALittle(t *testing.T) {
	long := []string{"abcdefgh", "abcdefgh", "abcdefgh", "abcdefgh"}
	for _, c := range []struct {
		name string
		a, b impl.Entry
	}{
		{"the label", impl.ValueEntry("ann", 7), impl.ValueEntry("bob", 7)}, {"the first byte", impl.ZoneEntry("ann", 7), impl.ZoneEntry("bnn", 7)}, {"the last of eight bytes", impl.ValueEntry("abcdefgh", 7), impl.ValueEntry("abcdefgi", 7)}, {"the order of bytes", impl.ValueEntry("ab", 7), impl.ValueEntry("ba", 7)},
		{"labels that look alike", impl.ValueEntry("shop", 7), impl.ValueEntry("sh0p", 7)}, {"a hyphen", impl.ValueEntry("ab", 7), impl.ValueEntry("a-b", 7)}, {"a proper prefix", impl.MovedEntry("a", 7, long), impl.MovedEntry("aa", 7, long)},
		{"value and zone", impl.ValueEntry("ann", 7), impl.ZoneEntry("ann", 7)}, {"zone and place", impl.ZoneEntry("ann", 7), impl.MovedEntry("ann", 7, []string{"a"})}, {"value and place", impl.ValueEntry("ann", 7), impl.MovedEntry("ann", 7, []string{"ann"})},
		{"the number", impl.ValueEntry("ann", 7), impl.ValueEntry("ann", 8)}, {"the greatest number", impl.ValueEntry("ann", 999999), impl.ValueEntry("ann", 999998)}, {"0 and the greatest zone", impl.ZoneEntry("ann", 0), impl.ZoneEntry("ann", modulus-1)}, {"the root", impl.MovedEntry("ann", 7, long), impl.MovedEntry("ann", 8, long)},
		{"the number of labels", impl.MovedEntry("ann", 7, []string{"a"}), impl.MovedEntry("ann", 7, []string{"a", "a"})}, {"a path of four", impl.MovedEntry("ann", 7, long), impl.MovedEntry("ann", 7, long[1:])}, {"one label instead of two", impl.MovedEntry("ann", 7, []string{"ab"}), impl.MovedEntry("ann", 7, []string{"a", "b"})},
		{"the first label", impl.MovedEntry("ann", 7, []string{"a", "b"}), impl.MovedEntry("ann", 7, []string{"c", "b"})}, {"the last label", impl.MovedEntry("ann", 7, []string{"a", "b"}), impl.MovedEntry("ann", 7, []string{"a", "c"})}, {"the order of labels", impl.MovedEntry("ann", 7, []string{"a", "b"}), impl.MovedEntry("ann", 7, []string{"b", "a"})},
		{"where a label ends", impl.MovedEntry("ann", 7, []string{"ab", "c"}), impl.MovedEntry("ann", 7, []string{"a", "bc"})}, {"label and path", impl.MovedEntry("a", 7, []string{"b"}), impl.MovedEntry("b", 7, []string{"a"})}, {"the last byte of four labels", impl.MovedEntry("ann", 7, long), impl.MovedEntry("ann", 7, append(slices.Clone(long[:3]), "abcdefgi"))},
		{"number and digit", impl.ValueEntry("a1", 0), impl.ValueEntry("a0", 1)}, {"kind and number", impl.ValueEntry("ann", 2), impl.ZoneEntry("ann", 1)},
	} {
		if !impl.IsEntry(c.a) || !impl.IsEntry(c.b) {
			t.Errorf("%s: %s or %s is not valid", c.name, shown(c.a), shown(c.b))
		}
		checkApart(t, c.a, c.b)
	}
}

// All values of a label have leaves of their own.
func TestLeavesOfAllNumbers(t *testing.T) {
	leaves := []int{}
	for n := range impl.MaxNumber + 1 {
		leaves = append(leaves, impl.LeafOf(impl.ValueEntry("a", n)))
	}
	slices.Sort(leaves)
	if different := len(slices.Compact(leaves)); different != impl.MaxNumber+1 {
		t.Errorf("%d values have %d leaves", impl.MaxNumber+1, different)
	}
}

// No two entries have the same numbers, whether they are valid or not.
func TestNumbersOfEntriesDiffer(t *testing.T) {
	ofNumbers := map[string]impl.Entry{}
	for _, e := range slices.Concat(validEntries(), someEntries()) {
		numbers := fmt.Sprint(impl.EntryInts(e))
		if other, found := ofNumbers[numbers]; found && !equalByRule(e, other) {
			t.Errorf("%s and %s have the numbers %s", shown(e), shown(other), numbers)
		}
		ofNumbers[numbers] = e
	}
}

// Hash reduces what it folds, and its factor, 1000003, is what one Kind more
// counts for in Value, so only values are compared that are less than both.
func TestLeavesOfSmallValuesDiffer(t *testing.T) {
	ofLeaf := map[int]impl.Entry{}
	for _, e := range slices.Concat(validEntries(), someEntries()) {
		if e.Value < 0 || e.Value > 999999 {
			continue
		}
		leaf := impl.LeafOf(e)
		if other, found := ofLeaf[leaf]; found && !equalByRule(e, other) {
			t.Errorf("%s and %s have the leaf %d", shown(e), shown(other), leaf)
		}
		ofLeaf[leaf] = e
	}
}

// By the document's Hash some valid entries that differ in two fields have the
// same leaf: everything else tells them apart all the same.
func TestEntriesWithTheSameLeaf(t *testing.T) {
	for _, n := range []int{0, 7, 999999} {
		a, b := impl.ValueEntry("ann", n), impl.ZoneEntry("ann", n-1000003+modulus)
		if !impl.IsEntry(a) || !impl.IsEntry(b) || leafByRule(a) != leafByRule(b) || impl.LeafOf(a) != impl.LeafOf(b) {
			t.Errorf("%s and %s are not valid, or have not the same leaf", shown(a), shown(b))
		}
		if impl.EqualEntries(a, b) || impl.EqualEntries(b, a) || slices.Equal(impl.EntryInts(a), impl.EntryInts(b)) {
			t.Errorf("%s and %s are not told apart", shown(a), shown(b))
		}
	}
}

func TestEqualEntriesHaveEqualLeaves(t *testing.T) {
	for _, e := range slices.Concat(validEntries(), someEntries()) {
		copied, spare := e, e
		copied.Label, copied.Path = strings.Clone(e.Label), slices.Clone(e.Path)
		spare.Path, _ = spareStrings(e.Path)
		checkSame(t, e, copied)
		checkSame(t, e, spare)
		if len(e.Path) == 0 {
			checkSame(t, entryOf(e.Label, e.Kind, e.Value), impl.Entry{Label: e.Label, Kind: e.Kind, Value: e.Value, Path: []string{}})
		}
	}
	checkSame(t, impl.Entry{}, impl.Entry{Path: []string{}})
	checkSame(t, impl.ValueEntry("a", 7), impl.Entry{Label: "a", Kind: 1, Value: 7, Path: make([]string, 0, 5)})
}

func TestIsEntry(t *testing.T) {
	for _, c := range []struct {
		e    impl.Entry
		want bool
	}{
		{entryOf("ann", 1, 7), true}, {entryOf("ann", 1, 0), true}, {entryOf("ann", 1, 999999), true}, {entryOf("ann", 1, -1), false}, {entryOf("ann", 1, 1000000), false}, {entryOf("ann", 1, modulus-1), false}, {entryOf("ann", 1, math.MinInt), false}, {entryOf("ann", 1, math.MaxInt), false},
		{entryOf("shop", 2, 12345), true}, {entryOf("shop", 2, 0), true}, {entryOf("shop", 2, 1000000), true}, {entryOf("shop", 2, modulus-1), true}, {entryOf("shop", 2, -1), false}, {entryOf("shop", 2, modulus), false}, {entryOf("shop", 2, math.MinInt), false}, {entryOf("shop", 2, math.MaxInt), false},
		{entryOf("bob", 3, 9, "x", "y"), true}, {entryOf("bob", 3, 0, "x"), true}, {entryOf("bob", 3, 1000000, "x"), true}, {entryOf("bob", 3, modulus-1, "x"), true}, {entryOf("bob", 3, -1, "x"), false}, {entryOf("bob", 3, modulus, "x"), false}, {entryOf("bob", 3, math.MinInt, "x"), false}, {entryOf("bob", 3, math.MaxInt, "x"), false},
		{entryOf("bob", 3, 9, "a", "b", "c", "d"), true}, {entryOf("bob", 3, 9, "bob"), true}, {entryOf("bob", 3, 9, "a", "b", "c", "d", "e"), false}, {entryOf("bob", 3, 9), false},
		{impl.Entry{Label: "bob", Kind: 3, Value: 9, Path: []string{}}, false}, {entryOf("bob", 3, 9, ""), false}, {entryOf("bob", 3, 9, "x", "Y"), false}, {entryOf("bob", 3, 9, "x/y"), false}, {entryOf("bob", 3, 9, "abcdefghi"), false},
		{impl.Entry{Label: "ann", Kind: 1, Value: 7, Path: []string{}}, true}, {impl.Entry{Label: "ann", Kind: 2, Value: 7, Path: []string{}}, true}, {entryOf("ann", 1, 7, "x"), false}, {entryOf("ann", 2, 7, "x"), false}, {entryOf("ann", 1, 7, ""), false}, {entryOf("ann", 2, 7, "", ""), false}, {entryOf("ann", 1, 7, "a", "b", "c", "d", "e"), false},
		{impl.Entry{}, false}, {entryOf("ann", 0, 7), false}, {entryOf("ann", 4, 7), false}, {entryOf("ann", -1, 7), false}, {entryOf("ann", -3, 7, "x"), false}, {entryOf("ann", 0, 7, "x"), false}, {entryOf("ann", 4, 7, "x"), false}, {entryOf("ann", 0, 0), false},
		{entryOf("", 1, 7), false}, {entryOf("", 2, 7), false}, {entryOf("", 3, 7, "x"), false}, {entryOf("abcdefgh", 1, 7), true}, {entryOf("abcdefghi", 1, 7), false}, {entryOf("Ann", 2, 7), false}, {entryOf("a-", 3, 7, "x"), false}, {entryOf("a/b", 3, 7, "x"), false}, {entryOf("-", 1, 7), false},
	} {
		if got := impl.IsEntry(c.e); got != c.want {
			t.Errorf("IsEntry(%s) is %v", shown(c.e), got)
		}
	}
}

func TestIsEntryOfAllLimits(t *testing.T) {
	valid := 0
	for _, kind := range edgeKinds {
		for _, value := range edgeValues {
			for _, path := range entryPaths() {
				for _, label := range []string{"a", "abcdefgh", "", "abcdefghi"} {
					e := entryOf(label, kind, value, path...)
					got := impl.IsEntry(e)
					if got != isEntryByRule(e) {
						t.Errorf("IsEntry(%s) is %v", shown(e), got)
					}
					if got {
						valid++
					}
				}
			}
		}
	}
	// Two labels, with 5 numbers or 9 zones, and Path nil or empty, or with 9 roots and 13 paths.
	if want := 2 * (5*2 + 9*2 + 9*13); valid != want {
		t.Errorf("%d entries are valid, want %d", valid, want)
	}
}

func TestIsEntryOfAllLabels(t *testing.T) {
	for _, label := range labelsAndOthers() {
		for _, e := range []impl.Entry{entryOf(label, 1, 999999), entryOf(label, 2, modulus-1), entryOf(label, 3, modulus-1, "x", "y")} {
			if got := impl.IsEntry(e); got != labelForm.MatchString(label) {
				t.Errorf("IsEntry(%s) is %v", shown(e), got)
			}
		}
		for _, e := range []impl.Entry{entryOf(label, 1, 1000000), entryOf(label, 2, modulus), entryOf(label, 3, modulus, "x", "y"), entryOf(label, 3, 7), entryOf(label, 4, 7), entryOf(label, 2, 7, label)} {
			if impl.IsEntry(e) {
				t.Errorf("%s is valid", shown(e))
			}
		}
	}
}

func TestIsEntryOfAllPaths(t *testing.T) {
	for _, p := range slices.Concat(paths(), noPaths, brokenPaths(), somePathsAndOthers()) {
		for kind := 0; kind <= 4; kind++ {
			e := entryOf("ann", kind, 7, p...)
			if got, want := impl.IsEntry(e), kind == 3 && isPathByRule(p) || (kind == 1 || kind == 2) && len(p) == 0; got != want {
				t.Errorf("IsEntry(%s) is %v", shown(e), got)
			}
		}
	}
}

func TestIsEntryOfAllPathLengths(t *testing.T) {
	for n := range 100 {
		path := slices.Repeat([]string{"a"}, n)
		for kind := 1; kind <= 3; kind++ {
			want := n == 0
			if kind == 3 {
				want = n >= 1 && n <= 4
			}
			if got := impl.IsEntry(entryOf("ann", kind, 7, path...)); got != want {
				t.Errorf("IsEntry of the kind %d with %d elements is %v", kind, n, got)
			}
		}
	}
}

func TestEntryInts(t *testing.T) {
	for _, c := range []struct {
		e    impl.Entry
		want []int
	}{
		{entryOf("ann", 1, 7), []int{3, 97, 110, 110, 1, 7, 0}}, {entryOf("shop", 2, 12345), []int{4, 115, 104, 111, 112, 2, 12345, 0}}, {entryOf("bob", 3, 9, "x", "y"), []int{3, 98, 111, 98, 3, 9, 2, 1, 120, 1, 121}}, {entryOf("a", 3, modulus-1, "ab", "c", "d", "e"), []int{1, 97, 3, modulus - 1, 4, 2, 97, 98, 1, 99, 1, 100, 1, 101}},
		{impl.Entry{}, []int{0, 0, 0, 0}}, {impl.Entry{Path: []string{}}, []int{0, 0, 0, 0}}, {impl.Entry{Path: []string{""}}, []int{0, 0, 0, 1, 0}}, {impl.Entry{Path: []string{"", "", ""}}, []int{0, 0, 0, 3, 0, 0, 0}},
		// The entry need not be valid.
		{entryOf("ann", 1, 7, "x"), []int{3, 97, 110, 110, 1, 7, 1, 1, 120}}, {entryOf("a", 2, -1, "", "x"), []int{1, 97, 2, -1, 2, 0, 1, 120}}, {entryOf("a", 3, 9), []int{1, 97, 3, 9, 0}}, {entryOf("a", -1, 1000000), []int{1, 97, -1, 1000000, 0}}, {entryOf("", math.MinInt, math.MaxInt), []int{0, math.MinInt, math.MaxInt, 0}}, {entryOf("", 4, math.MinInt), []int{0, 4, math.MinInt, 0}},
		{entryOf("\x00\xff", 1, 0), []int{2, 0, 255, 1, 0, 0}}, {entryOf("\u00e9", 1, 0, "\u2010", "\x80"), []int{2, 195, 169, 1, 0, 2, 3, 226, 128, 144, 1, 128}}, {entryOf("A B", 5, 0, "a/b"), []int{3, 65, 32, 66, 5, 0, 1, 3, 97, 47, 98}},
	} {
		if got := impl.EntryInts(c.e); !slices.Equal(got, c.want) {
			t.Errorf("EntryInts(%s) is %v, want %v", shown(c.e), got, c.want)
		}
	}
	for _, e := range slices.Concat(validEntries(), someEntries()) {
		if got, want := impl.EntryInts(e), entryIntsByRule(e); !slices.Equal(got, want) {
			t.Errorf("EntryInts(%s) is %v, want %v", shown(e), got, want)
		}
	}
}

func TestLeafOf(t *testing.T) {
	for _, c := range []struct {
		e    impl.Entry
		want int
	}{
		{entryOf("ann", 1, 7), 132890426}, {entryOf("ann", 1, 8), 133890429}, {entryOf("ann", 2, 7), 1558994580}, {entryOf("shop", 2, 12345), 831960378}, {entryOf("bob", 3, 9, "x", "y"), 516354259}, {entryOf("bob", 3, 9, "x"), 389862735}, {entryOf("a", 1, 999999), 130789821},
		{entryOf("a", 3, modulus-1, "abcdefgh", "abcdefgh", "abcdefgh", "abcdefgh"), 852556978}, {impl.Entry{}, 693803885}, {impl.Entry{Path: []string{}}, 693803885}, {entryOf("", -1, -1, "", "\xff"), 1393566526},
	} {
		if got := impl.LeafOf(c.e); got != c.want || got != impl.Hash(append([]int{227}, impl.EntryInts(c.e)...)) {
			t.Errorf("LeafOf(%s) is %d, want %d", shown(c.e), got, c.want)
		}
	}
	for _, e := range slices.Concat(validEntries(), someEntries()) {
		if got, want := impl.LeafOf(e), leafByRule(e); got != want {
			t.Errorf("LeafOf(%s) is %d, want %d", shown(e), got, want)
		}
	}
}

func TestEntriesOfAllKindsAndValues(t *testing.T) {
	for _, kind := range edgeKinds {
		for _, value := range edgeValues {
			for _, path := range [][]string{nil, {}, {"x"}, {"", "\xff"}} {
				e := entryOf("ann", kind, value, path...)
				if got, want := impl.EntryInts(e), entryIntsByRule(e); !slices.Equal(got, want) {
					t.Errorf("EntryInts(%s) is %v, want %v", shown(e), got, want)
				}
				if got, want := impl.LeafOf(e), leafByRule(e); got != want {
					t.Errorf("LeafOf(%s) is %d, want %d", shown(e), got, want)
				}
			}
		}
	}
}

// Labels of any bytes and lengths are encoded byte by byte.
func TestNumbersOfAllBytes(t *testing.T) {
	whole := ""
	for c := range 256 {
		s := string([]byte{byte(c)})
		whole += s
		for _, e := range []impl.Entry{entryOf(s, 1, 7), entryOf("a", 3, 7, s), entryOf(whole, 3, 7, "a", whole, s)} {
			if got, want := impl.EntryInts(e), entryIntsByRule(e); !slices.Equal(got, want) {
				t.Errorf("EntryInts(%s) is %v, want %v", shown(e), got, want)
			}
			if got, want := impl.LeafOf(e), leafByRule(e); got != want {
				t.Errorf("LeafOf(%s) is %d, want %d", shown(e), got, want)
			}
		}
	}
}

func TestMadeEntries(t *testing.T) {
	for _, label := range append(labelsAndOthers(), entryLabels...) {
		for _, value := range edgeValues {
			checkMade(t, "ValueEntry", impl.ValueEntry(label, value), entryOf(label, 1, value))
			checkMade(t, "ZoneEntry", impl.ZoneEntry(label, value), entryOf(label, 2, value))
			for _, path := range entryPaths() {
				checkMade(t, "MovedEntry", impl.MovedEntry(label, value, path), entryOf(label, 3, value, path...))
			}
		}
	}
	for _, path := range slices.Concat(noPaths, brokenPaths(), somePathsAndOthers()) {
		checkMade(t, "MovedEntry", impl.MovedEntry("ann", 7, path), entryOf("ann", 3, 7, path...))
	}
}

func checkMade(t *testing.T, name string, got impl.Entry, want impl.Entry) {
	t.Helper()
	if !equalByRule(got, want) || impl.IsEntry(got) != isEntryByRule(want) {
		t.Errorf("%s is %s, want %s", name, shown(got), shown(want))
	}
}

func TestEqualEntries(t *testing.T) {
	moved := entryOf("ann", 3, 7, "a", "b")
	for _, c := range []struct {
		a, b impl.Entry
		want bool
	}{
		{moved, entryOf("ann", 3, 7, "a", "b"), true}, {impl.ValueEntry("ann", 7), entryOf("ann", 1, 7), true}, {impl.ZoneEntry("ann", 7), impl.ZoneEntry("ann", 7), true}, {impl.Entry{}, impl.Entry{}, true}, {impl.Entry{}, impl.Entry{Path: []string{}}, true}, {entryOf("ann", 1, 7), impl.Entry{Label: "ann", Kind: 1, Value: 7, Path: []string{}}, true},
		{moved, entryOf("bob", 3, 7, "a", "b"), false}, {moved, entryOf("an", 3, 7, "a", "b"), false}, {moved, entryOf("", 3, 7, "a", "b"), false}, {moved, entryOf("Ann", 3, 7, "a", "b"), false}, {entryOf("o", 1, 7), entryOf("0", 1, 7), false}, {entryOf("ab", 1, 7), entryOf("a-b", 1, 7), false},
		{moved, entryOf("ann", 2, 7, "a", "b"), false}, {moved, entryOf("ann", 0, 7, "a", "b"), false}, {entryOf("ann", 1, 7), entryOf("ann", 2, 7), false}, {entryOf("ann", 1, 7), entryOf("ann", -1, 7), false}, {entryOf("ann", 1, 7), entryOf("ann", 1<<32+1, 7), false},
		{moved, entryOf("ann", 3, 8, "a", "b"), false}, {moved, entryOf("ann", 3, -7, "a", "b"), false}, {moved, entryOf("ann", 3, 7+modulus, "a", "b"), false}, {moved, entryOf("ann", 3, 7+1<<32, "a", "b"), false}, {entryOf("ann", 1, 0), entryOf("ann", 1, 1), false},
		{moved, entryOf("ann", 3, 7), false}, {moved, entryOf("ann", 3, 7, "a"), false}, {moved, entryOf("ann", 3, 7, "b"), false}, {moved, entryOf("ann", 3, 7, "a", "b", "b"), false}, {moved, entryOf("ann", 3, 7, "a", "b", ""), false},
		{moved, entryOf("ann", 3, 7, "b", "a"), false}, {moved, entryOf("ann", 3, 7, "a", "c"), false}, {moved, entryOf("ann", 3, 7, "c", "b"), false}, {moved, entryOf("ann", 3, 7, "a/b"), false}, {moved, entryOf("ann", 3, 7, "ab"), false},
		// The entries need not be valid.
		{entryOf("A", 9, -5, "", "x/y"), entryOf("A", 9, -5, "", "x/y"), true}, {entryOf("A", 9, -5, "", "x/y"), entryOf("A", 9, -5, "", "x"), false}, {entryOf("", 0, 0, ""), entryOf("", 0, 0), false}, {entryOf("", 1, math.MinInt), entryOf("", 1, math.MinInt), true},
		{entryOf("", 1, math.MinInt), entryOf("", 1, math.MaxInt), false}, {entryOf("ann", 1, 7, "x"), entryOf("ann", 1, 7), false}, {entryOf("ann", 2, 7, "x"), entryOf("ann", 2, 7, "y"), false}, {entryOf("ann", 4, 7, "x"), entryOf("ann", 4, 7, "x"), true}, {entryOf("ann", 4, 7, "x"), entryOf("ann", 4, 7, "y"), false},
		{entryOf("\xff", 1, 7), entryOf("\xfe", 1, 7), false}, {entryOf("\xff", 1, 7), entryOf("\ufffd", 1, 7), false}, {entryOf("a", 3, 7, "\xff"), entryOf("a", 3, 7, "\xfe"), false}, {entryOf("a", 3, 7, slices.Repeat([]string{"x"}, 5000)...), entryOf("a", 3, 7, slices.Repeat([]string{"x"}, 5001)...), false},
	} {
		for _, got := range []bool{impl.EqualEntries(c.a, c.b), impl.EqualEntries(c.b, c.a)} {
			if got != c.want {
				t.Errorf("%s and %s: EqualEntries is %v", shown(c.a), shown(c.b), got)
			}
		}
	}
}

func TestEqualEntriesOfAllPairs(t *testing.T) {
	all := []impl.Entry{}
	for _, label := range []string{"a", "ab", "b", "", "A"} {
		for _, kind := range []int{1, 2, 3, 0, -1} {
			for _, value := range []int{0, 7, -1, modulus} {
				for _, path := range [][]string{nil, {}, {"a"}, {"ab"}, {"a", "b"}, {"b", "a"}, {""}} {
					all = append(all, impl.Entry{Label: label, Kind: kind, Value: value, Path: path})
				}
			}
		}
	}
	for _, a := range all {
		for _, b := range all {
			if got := impl.EqualEntries(a, b); got != equalByRule(a, b) {
				t.Errorf("EqualEntries(%s, %s) is %v", shown(a), shown(b), got)
			}
		}
	}
}

func TestEntryFunctionsLeaveTheirArguments(t *testing.T) {
	for _, start := range slices.Concat(validEntries()[:200], someEntries()) {
		e := start
		path, whole := spareStrings(start.Path)
		e.Path = path
		before := slices.Clone(whole)
		impl.IsEntry(e)
		overwriteInts(impl.EntryInts(e))
		impl.LeafOf(e)
		impl.EqualEntries(e, start)
		impl.EqualEntries(start, e)
		impl.EqualEntries(e, entryOf(e.Label, e.Kind, e.Value, whole...))
		moved, again := impl.MovedEntry(e.Label, e.Value, path), impl.MovedEntry(e.Label, e.Value, path)
		overwriteStrings(moved.Path)
		if !slices.Equal(whole, before) {
			t.Errorf("a function wrote into the path of %s or its spare capacity, or shares memory with it", shown(start))
		}
		if !slices.Equal(again.Path, start.Path) {
			t.Errorf("two results of MovedEntry with the path %.60q share memory", start.Path)
		}
	}
}

// What is done to an argument afterwards does not reach a result.
func TestMadeEntriesKeepTheirPaths(t *testing.T) {
	for _, start := range slices.Concat(paths()[:500], entryPaths()) {
		path, whole := spareStrings(start)
		e := impl.MovedEntry("ann", 7, path)
		leaf := impl.LeafOf(e)
		overwriteStrings(whole)
		if !equalByRule(e, entryOf("ann", 3, 7, start...)) || impl.LeafOf(e) != leaf {
			t.Errorf("MovedEntry with the path %.60q changed afterwards to %s", start, shown(e))
		}
	}
}

func TestNumbersOfEntriesAreTheirOwn(t *testing.T) {
	for _, e := range slices.Concat(validEntries()[:200], someEntries()) {
		values := impl.EntryInts(e)
		overwriteInts(impl.EntryInts(e))
		if !slices.Equal(values, entryIntsByRule(e)) {
			t.Errorf("two results of EntryInts(%s) share memory", shown(e))
		}
	}
}

// Every function returns for arguments of any size.
func TestLongEntries(t *testing.T) {
	long := strings.Repeat("abc\xff", 20000)
	path := slices.Repeat([]string{"a", "", "\x00xyz", long[:300]}, 500)
	for _, e := range []impl.Entry{entryOf(long, 1, 7), entryOf("a", 3, 7, long, long), entryOf("a", 3, 7, path...), entryOf(long, math.MinInt, math.MaxInt, path...), entryOf(long, 2, -1, path...), entryOf("a", 1, 7, path...)} {
		if impl.IsEntry(e) || !impl.EqualEntries(e, e) {
			t.Errorf("an entry with a label of %d bytes and %d elements of Path", len(e.Label), len(e.Path))
		}
		if !slices.Equal(impl.EntryInts(e), entryIntsByRule(e)) || impl.LeafOf(e) != leafByRule(e) {
			t.Errorf("the numbers of an entry with a label of %d bytes and %d elements of Path", len(e.Label), len(e.Path))
		}
		checkMade(t, "MovedEntry", impl.MovedEntry(e.Label, e.Value, e.Path), entryOf(e.Label, 3, e.Value, e.Path...))
	}
}
