package tests

import (
	"regexp"
	"slices"
	"strings"
	"testing"

	"loop.example/g00588/impl"
)

// noPaths are lists that are no path, each for a reason of its own; one that
// holds each string that is no label is built by brokenPaths.
var noPaths = [][]string{
	nil, {},
	{"a", "b", "c", "d", "e"}, {"a", "a", "a", "a", "a"}, {"a", "b", "c", "d", "e", "f", "g", "h"}, slices.Repeat([]string{"a"}, 5000), slices.Repeat([]string{"abcdefgh"}, 5),
	{"a", "b", "c", "d", ""}, {"", "a", "b", "c", "d"}, {"", "", "", "", ""},
	{"A"}, {"", ""}, {"a/b"}, {"a/b/c/d"}, {"a/b", "c"}, {"a", "b/c", "d"}, {"/"}, {"/", "/"}, {"a/"}, {"/a"},
}

// brokenPaths puts each string that is no label at each place of lists of 1 to
// MaxPath elements.
func brokenPaths() [][]string {
	broken := [][]string{}
	for _, bad := range noLabels {
		for n := 1; n <= impl.MaxPath; n++ {
			for i := range n {
				p := slices.Clone([]string{"a", "shop", "0-9", "abcdefgh"}[:n])
				p[i] = bad
				broken = append(broken, p)
			}
		}
	}
	return broken
}

// visitLists calls visit for all lists of at most n of the given elements.
func visitLists(n int, elements []string, visit func(p []string)) {
	var extend func(p []string, n int)
	extend = func(p []string, n int) {
		visit(slices.Clone(p))
		if n == 0 {
			return
		}
		for _, element := range elements {
			extend(append(slices.Clone(p), element), n-1)
		}
	}
	extend(nil, n)
}

var (
	pathElements  = []string{"a", "ab", "a-b", "0", "o", "abcdefgh"}
	mixedElements = []string{"a", "ab", "b", "", "a/b", "A", "a-"}
)

// paths are all paths of the elements above, and others of labels of all kinds.
func paths() [][]string {
	all := [][]string{}
	visitLists(impl.MaxPath, pathElements, func(p []string) {
		if len(p) > 0 {
			all = append(all, p)
		}
	})
	for i, s := range goodLabels {
		next := goodLabels[(i+1)%len(goodLabels)]
		all = append(all, []string{s}, []string{s, next}, []string{next, s, s}, []string{"a", next, "a", s}, []string{s, s, s, s})
	}
	return all
}

// somePathsAndOthers are few enough for all pairs of them.
func somePathsAndOthers() [][]string {
	all := slices.Concat(noPaths, [][]string{{"abcdefgh", "abcdefgh", "abcdefgh", "abcdefgh"}, {"0", "o"}, {"o", "0"}, {"0"}, {"o"}, {"a-b"}, {"a-b", "ab"}})
	visitLists(3, []string{"a", "ab", "b"}, func(p []string) { all = append(all, p, append(slices.Clone(p), "A"), append(slices.Clone(p), "a")) })
	return all
}

var pathForm = regexp.MustCompile(`\A[a-z0-9]([a-z0-9-]{0,6}[a-z0-9])?(/[a-z0-9]([a-z0-9-]{0,6}[a-z0-9])?){0,3}\z`)

// isPathByRule follows the document's words with the form of labels.
func isPathByRule(p []string) bool {
	return len(p) >= 1 && len(p) <= 4 && !slices.ContainsFunc(p, func(s string) bool { return !labelForm.MatchString(s) })
}

// belowByRule compares the paths as strings, where each label has an end.
func belowByRule(p []string, q []string) bool {
	if !isPathByRule(p) || !isPathByRule(q) {
		return false
	}
	long, short := strings.Join(p, "/")+"/", strings.Join(q, "/")+"/"
	return long != short && strings.HasPrefix(long, short)
}

// pathOrNothing is what a function has to return that finds p, or no path.
func pathOrNothing(p []string, found bool) ([]string, bool) {
	if !found {
		return nil, false
	}
	return p, true
}

// spareStrings returns p with spare capacity, and the whole memory behind it.
func spareStrings(p []string) ([]string, []string) {
	whole := append(slices.Clone(p), "s", "p", "a", "r", "e", "A", "")
	return whole[:len(p)], whole
}

// overwriteStrings changes everything that the result reaches.
func overwriteStrings(p []string) {
	p = p[:cap(p)]
	for i := range p {
		p[i] += "-changed"
	}
}

func checkParent(t *testing.T, p []string) {
	t.Helper()
	var want []string
	wantOk := isPathByRule(p) && len(p) > 1
	if wantOk {
		want = p[:len(p)-1]
	}
	if got, ok := impl.ParentOf(p); !slices.Equal(got, want) || ok != wantOk {
		t.Errorf("ParentOf(%.60q) is %.60q, %v, want %.60q, %v", p, got, ok, want, wantOk)
	}
}

func checkJoin(t *testing.T, p []string, s string) {
	t.Helper()
	whole := slices.Concat(p, []string{s})
	want, wantOk := pathOrNothing(whole, isPathByRule(whole))
	if got, ok := impl.JoinPath(p, s); !slices.Equal(got, want) || ok != wantOk {
		t.Errorf("JoinPath(%.60q, %.40q) is %.60q, %v, want %.60q, %v", p, s, got, ok, want, wantOk)
	}
}

func checkFormat(t *testing.T, p []string) {
	t.Helper()
	want := ""
	if isPathByRule(p) {
		want = strings.Join(p, "/")
	}
	if got := impl.FormatPath(p); got != want {
		t.Errorf("FormatPath(%.60q) is %.60q, want %.60q", p, got, want)
	}
}

func checkParse(t *testing.T, s string) {
	t.Helper()
	want, wantOk := pathOrNothing(strings.Split(s, "/"), pathForm.MatchString(s))
	got, ok := impl.ParsePath(s)
	if !slices.Equal(got, want) || ok != wantOk {
		t.Errorf("ParsePath(%.60q) is %.60q, %v, want %.60q, %v", s, got, ok, want, wantOk)
	}
	if ok && (impl.FormatPath(got) != s || !impl.IsPath(got)) {
		t.Errorf("%.60q was parsed, but comes back as %.60q", s, impl.FormatPath(got))
	}
}

func TestMaxPath(t *testing.T) {
	if impl.MaxPath != 4 {
		t.Errorf("MaxPath is %d", impl.MaxPath)
	}
}

// This is promise 5, for every path of two labels and more.
func TestAPathIsBelowItsParent(t *testing.T) {
	count := 0
	for _, p := range paths() {
		q, ok := impl.ParentOf(p)
		if len(p) == 1 {
			if ok || len(q) != 0 {
				t.Errorf("ParentOf(%q) is %q, %v", p, q, ok)
			}
			continue
		}
		count++
		if !ok || !slices.Equal(q, p[:len(p)-1]) || !impl.IsPath(q) {
			t.Errorf("ParentOf(%q) is %q, %v", p, q, ok)
		}
		if !impl.IsBelow(p, q) || impl.IsBelow(q, p) {
			t.Errorf("%q and its parent %q: IsBelow is %v, and %v the other way round", p, q, impl.IsBelow(p, q), impl.IsBelow(q, p))
		}
		if back, ok := impl.JoinPath(q, p[len(p)-1]); !ok || !slices.Equal(back, p) || !impl.SamePath(back, p) {
			t.Errorf("JoinPath(%q, %q) is %q, %v, want %q", q, p[len(p)-1], back, ok, p)
		}
	}
	if count < 1000 {
		t.Errorf("only %d paths have a parent", count)
	}
}

func TestParsePathInvertsFormatPath(t *testing.T) {
	for _, p := range paths() {
		s := impl.FormatPath(p)
		if s != strings.Join(p, "/") {
			t.Errorf("FormatPath(%q) is %q", p, s)
		}
		if got, ok := impl.ParsePath(s); !ok || !slices.Equal(got, p) {
			t.Errorf("ParsePath(%q) is %q, %v, want %q", s, got, ok, p)
		}
	}
}

func TestIsPath(t *testing.T) {
	for _, p := range paths() {
		if !impl.IsPath(p) {
			t.Errorf("%q is no path", p)
		}
	}
	for _, p := range slices.Concat(noPaths, brokenPaths()) {
		if impl.IsPath(p) {
			t.Errorf("%.60q is a path", p)
		}
	}
	visitLists(impl.MaxPath+1, mixedElements, func(p []string) {
		if got, want := impl.IsPath(p), isPathByRule(p); got != want {
			t.Errorf("IsPath(%q) is %v", p, got)
		}
	})
}

func TestIsPathOfAllLengths(t *testing.T) {
	for n := range 300 {
		want := n >= 1 && n <= 4
		for _, s := range []string{"a", "abcdefgh", "0-9"} {
			p := slices.Repeat([]string{s}, n)
			if got := impl.IsPath(p); got != want {
				t.Errorf("IsPath of %d times %q is %v", n, s, got)
			}
			if got, ok := impl.ParsePath(strings.Join(p, "/")); ok != want || want && !slices.Equal(got, p) || !want && len(got) != 0 {
				t.Errorf("ParsePath of %d times %q is %q, %v", n, s, got, ok)
			}
			checkFormat(t, p)
			checkParent(t, p)
			checkJoin(t, p, s)
		}
	}
}

func TestFormatPath(t *testing.T) {
	for _, c := range []struct {
		p    []string
		want string
	}{
		{[]string{"a"}, "a"}, {[]string{"shop", "ann"}, "shop/ann"}, {[]string{"a", "b", "c"}, "a/b/c"}, {[]string{"a", "b", "c", "d"}, "a/b/c/d"}, {[]string{"0", "0"}, "0/0"},
		{[]string{"abcdefgh", "a------h", "00000000", "zzzzzzzz"}, "abcdefgh/a------h/00000000/zzzzzzzz"},
	} {
		if got := impl.FormatPath(c.p); got != c.want {
			t.Errorf("FormatPath(%q) is %q, want %q", c.p, got, c.want)
		}
	}
	for _, p := range slices.Concat(noPaths, brokenPaths()) {
		if got := impl.FormatPath(p); got != "" {
			t.Errorf("FormatPath(%.60q) is %.60q", p, got)
		}
	}
	visitLists(impl.MaxPath+1, mixedElements, func(p []string) { checkFormat(t, p) })
}

func TestParsePathRejects(t *testing.T) {
	for _, s := range []string{
		"", "/", "//", "///", "////", "/////", "/a", "a/", "/a/", "//a", "a//", "a//b", "a///b", "a/b/", "/a/b", "a/b//c", "a/b/c/d/", "/a/b/c/d", "a//b/c/d", "a/b/c//d", "a/b/c/d//",
		"a/b/c/d/e", "abcdefgh/abcdefgh/abcdefgh/abcdefgh/abcdefgh", "a/b/c/d/e/f", "a/b/c/d/A", "////a", "a////",
		"A", "a/B", "-a/b", "a/b-", "a/-/b", "-", "-/-", "abcdefghi", "a/abcdefghi", "a b", "a/ b", " a", "a/b ", "a/b\n", "\na/b", "a\\b", "a.b", "a|b", "a/b\x00", "\x00", "a\x00/b",
		"a\xff/b", "\xff", "a/\xff", "\u00e9/a", "a/\u00e9", "a\u2044b", "a\u2215b", "a\uff0fb", "\uff41/b", "a\xc0\xafb",
		strings.Repeat("a", 5000), strings.Repeat("/", 5000), strings.Repeat("a/", 5000), strings.Repeat("a/", 5000) + "a",
	} {
		if got, ok := impl.ParsePath(s); ok || len(got) != 0 {
			t.Errorf("ParsePath(%.60q) is %.60q, %v", s, got, ok)
		}
	}
	for _, p := range slices.Concat(noPaths, brokenPaths()) {
		checkParse(t, strings.Join(p, "/"))
	}
}

func TestParsePathOfAllShortStrings(t *testing.T) {
	visitStrings(7, []string{"a", "0", "-", "/", "A"}, func(s string) { checkParse(t, s) })
	visitStrings(5, []string{"abcdefgh", "i", "/", "\xff", "\u00e9"}, func(s string) { checkParse(t, s) })
	visitStrings(11, []string{"a", "/"}, func(s string) { checkParse(t, s) })
}

func TestParentOf(t *testing.T) {
	for _, c := range []struct {
		p, want []string
		ok      bool
	}{
		{[]string{"shop", "ann"}, []string{"shop"}, true}, {[]string{"a", "b", "c"}, []string{"a", "b"}, true}, {[]string{"a", "b", "c", "d"}, []string{"a", "b", "c"}, true}, {[]string{"a", "a"}, []string{"a"}, true},
		{[]string{"a"}, nil, false}, {[]string{"abcdefgh"}, nil, false}, {nil, nil, false}, {[]string{}, nil, false}, {[]string{""}, nil, false},
		// What would be left is a path, but the list is none.
		{[]string{"a", "A"}, nil, false}, {[]string{"a", ""}, nil, false}, {[]string{"a", "b/c"}, nil, false}, {[]string{"a", "b", "c-"}, nil, false}, {[]string{"a", "b", "c", "d", "e"}, nil, false},
		{[]string{"A", "a"}, nil, false}, {[]string{"", "a"}, nil, false}, {[]string{"a", "B", "c"}, nil, false},
	} {
		if got, ok := impl.ParentOf(c.p); !slices.Equal(got, c.want) || ok != c.ok {
			t.Errorf("ParentOf(%q) is %q, %v, want %q, %v", c.p, got, ok, c.want, c.ok)
		}
	}
	for _, p := range slices.Concat(noPaths, brokenPaths()) {
		checkParent(t, p)
	}
	visitLists(impl.MaxPath+1, mixedElements, func(p []string) { checkParent(t, p) })
}

func TestJoinPath(t *testing.T) {
	for _, c := range []struct {
		p    []string
		s    string
		want []string
		ok   bool
	}{
		{nil, "a", []string{"a"}, true}, {[]string{}, "a", []string{"a"}, true}, {[]string{"shop"}, "ann", []string{"shop", "ann"}, true}, {[]string{"a", "b", "c"}, "abcdefgh", []string{"a", "b", "c", "abcdefgh"}, true}, {[]string{"a"}, "a", []string{"a", "a"}, true},
		{[]string{"a", "b", "c", "d"}, "e", nil, false}, {[]string{"a", "b", "c", "d"}, "", nil, false}, {[]string{"a", "b", "c", "d", "e"}, "f", nil, false},
		{nil, "", nil, false}, {nil, "A", nil, false}, {nil, "a/b", nil, false}, {[]string{"a"}, "", nil, false}, {[]string{"a"}, "/b", nil, false}, {[]string{"a"}, "b/c", nil, false}, {[]string{"a"}, "abcdefghi", nil, false}, {[]string{"a"}, "-b", nil, false},
		{[]string{""}, "a", nil, false}, {[]string{"A"}, "a", nil, false}, {[]string{"a", "b/c"}, "d", nil, false}, {[]string{"a", ""}, "b", nil, false}, {[]string{"", "b"}, "c", nil, false},
	} {
		if got, ok := impl.JoinPath(c.p, c.s); !slices.Equal(got, c.want) || ok != c.ok {
			t.Errorf("JoinPath(%q, %q) is %q, %v, want %q, %v", c.p, c.s, got, ok, c.want, c.ok)
		}
	}
	for _, s := range labelsAndOthers() {
		for n := range impl.MaxPath + 2 {
			checkJoin(t, []string{"a", "b", "a", "0", "9"}[:n], s)
		}
	}
	for _, p := range slices.Concat(noPaths, brokenPaths()) {
		checkJoin(t, p, "a")
		checkJoin(t, p, "")
	}
	visitLists(impl.MaxPath, mixedElements, func(p []string) {
		for _, s := range mixedElements {
			checkJoin(t, p, s)
		}
	})
}

func TestIsBelow(t *testing.T) {
	for _, c := range []struct {
		p, q []string
		want bool
	}{
		{[]string{"a", "b"}, []string{"a"}, true}, {[]string{"a", "b", "c", "d"}, []string{"a"}, true}, {[]string{"a", "b", "c", "d"}, []string{"a", "b"}, true}, {[]string{"a", "b", "c", "d"}, []string{"a", "b", "c"}, true}, {[]string{"a", "a"}, []string{"a"}, true},
		// Equal paths, and the other way round.
		{[]string{"a"}, []string{"a"}, false}, {[]string{"a", "b"}, []string{"a", "b"}, false}, {[]string{"a", "b", "c", "d"}, []string{"a", "b", "c", "d"}, false}, {[]string{"a"}, []string{"a", "b"}, false}, {[]string{"a", "b"}, []string{"a", "b", "c"}, false},
		// A part of a label is not the label, nor is one that looks like it.
		{[]string{"ann", "x"}, []string{"an"}, false}, {[]string{"an", "x"}, []string{"ann"}, false}, {[]string{"ab", "c", "d"}, []string{"ab", "cd"}, false}, {[]string{"a", "bc", "d"}, []string{"a", "b"}, false}, {[]string{"ab", "c"}, []string{"a"}, false}, {[]string{"o", "a"}, []string{"0"}, false}, {[]string{"a-b", "c"}, []string{"ab"}, false},
		{[]string{"b", "a"}, []string{"a"}, false}, {[]string{"a", "b"}, []string{"b"}, false}, {[]string{"a", "b", "c"}, []string{"b", "a"}, false}, {[]string{"a", "b", "c"}, []string{"a", "c"}, false}, {[]string{"a", "b", "c"}, []string{"b", "c"}, false}, {[]string{"a", "b", "c"}, []string{"c", "b"}, false},
		// A list that is no path is not below and has nothing below it.
		{[]string{"a"}, nil, false}, {[]string{"a"}, []string{}, false}, {[]string{"a", "b", "c", "d"}, nil, false}, {nil, nil, false}, {nil, []string{"a"}, false}, {[]string{}, []string{}, false},
		{[]string{"a", "b", "c", "d", "e"}, []string{"a"}, false}, {[]string{"a", "b", "c", "d", "e"}, []string{"a", "b", "c", "d"}, false}, {[]string{"a"}, []string{"a", "b", "c", "d", "e"}, false}, {[]string{"a", "b", "c", "d", "e", "f"}, []string{"a", "b", "c", "d", "e"}, false},
		{[]string{"a", "B"}, []string{"a"}, false}, {[]string{"a", ""}, []string{"a"}, false}, {[]string{"a", "b/c"}, []string{"a"}, false}, {[]string{"A", "b"}, []string{"A"}, false}, {[]string{"", "b"}, []string{""}, false}, {[]string{"a/b", "c"}, []string{"a/b"}, false}, {[]string{"a/b"}, []string{"a"}, false}, {[]string{"a", "b"}, []string{"A"}, false}, {[]string{"a", "b"}, []string{""}, false},
	} {
		if got := impl.IsBelow(c.p, c.q); got != c.want {
			t.Errorf("IsBelow(%q, %q) is %v", c.p, c.q, got)
		}
	}
	all := somePathsAndOthers()
	for _, p := range all {
		for _, q := range all {
			if got, want := impl.IsBelow(p, q), belowByRule(p, q); got != want {
				t.Errorf("IsBelow(%.60q, %.60q) is %v", p, q, got)
			}
		}
	}
}

// An element that is no label, at each place of either side.
func TestIsBelowOfBrokenPaths(t *testing.T) {
	for _, p := range brokenPaths() {
		for n := range len(p) + 1 {
			if impl.IsBelow(p, p[:n]) {
				t.Errorf("IsBelow(%.60q, %.60q) is true", p, p[:n])
			}
		}
		longer := append(slices.Clone(p), "a")
		if impl.IsBelow(longer, p) || impl.IsBelow(p, longer) || impl.IsBelow(p, p) {
			t.Errorf("IsBelow of %.60q and %.60q is true", longer, p)
		}
	}
}

func TestSamePath(t *testing.T) {
	for _, c := range []struct {
		p, q []string
		want bool
	}{
		{nil, nil, true}, {nil, []string{}, true}, {[]string{}, []string{}, true}, {[]string{"a"}, []string{"a"}, true}, {[]string{"a", "b", "c", "d"}, []string{"a", "b", "c", "d"}, true},
		// The lists need not be paths.
		{[]string{""}, []string{""}, true}, {[]string{"A", "b/c"}, []string{"A", "b/c"}, true}, {[]string{"a", "b", "c", "d", "e"}, []string{"a", "b", "c", "d", "e"}, true}, {[]string{"\xff"}, []string{"\xff"}, true}, {slices.Repeat([]string{"x"}, 5000), slices.Repeat([]string{"x"}, 5000), true},
		{nil, []string{""}, false}, {nil, []string{"a"}, false}, {[]string{"a"}, []string{"a", ""}, false}, {[]string{""}, []string{"", ""}, false}, {[]string{"a", "b"}, []string{"a"}, false}, {[]string{"a", "b", "c", "d"}, []string{"a", "b", "c", "d", "e"}, false}, {slices.Repeat([]string{"x"}, 5000), slices.Repeat([]string{"x"}, 5001), false},
		{[]string{"a"}, []string{"b"}, false}, {[]string{"a", "b"}, []string{"b", "a"}, false}, {[]string{"a", "b"}, []string{"a", "c"}, false}, {[]string{"b", "a"}, []string{"c", "a"}, false}, {[]string{"a"}, []string{"A"}, false}, {[]string{"0"}, []string{"o"}, false}, {[]string{"ab"}, []string{"a-b"}, false}, {[]string{"\xff"}, []string{"\xfe"}, false}, {[]string{"\xff"}, []string{"\ufffd"}, false},
		// They are written alike, but have other elements.
		{[]string{"a/b"}, []string{"a", "b"}, false}, {[]string{"a", "b/c"}, []string{"a/b", "c"}, false}, {[]string{"ab", "c"}, []string{"a", "bc"}, false}, {[]string{"", "a"}, []string{"a", ""}, false},
	} {
		for _, got := range []bool{impl.SamePath(c.p, c.q), impl.SamePath(c.q, c.p)} {
			if got != c.want {
				t.Errorf("%.60q and %.60q: SamePath is %v", c.p, c.q, got)
			}
		}
	}
	all := somePathsAndOthers()
	for _, p := range all {
		for _, q := range all {
			if got, want := impl.SamePath(p, q), slices.Equal(p, q); got != want {
				t.Errorf("SamePath(%.60q, %.60q) is %v", p, q, got)
			}
		}
	}
}

func TestPathFunctionsLeaveTheirArguments(t *testing.T) {
	for _, start := range slices.Concat(somePathsAndOthers(), paths()[:500], [][]string{{"a", "b", "c"}, {"a", "b", "c", "d"}}) {
		p, whole := spareStrings(start)
		before := slices.Clone(whole)
		impl.IsPath(p)
		impl.FormatPath(p)
		impl.ParentOf(p)
		for _, s := range []string{"x", "", "b/c"} {
			impl.JoinPath(p, s)
			impl.JoinPath(p[:len(p)/2], s)
		}
		impl.IsBelow(p, p[:len(p)/2])
		impl.IsBelow(p[:len(p)/2], p)
		impl.SamePath(p, p[:len(p)/2])
		impl.SamePath(p, p)
		if !slices.Equal(whole, before) {
			t.Errorf("a function wrote into %.60q or its spare capacity", start)
		}
	}
}

func TestPathsThatAreReturnedAreTheirOwn(t *testing.T) {
	for _, start := range slices.Concat(somePathsAndOthers(), paths()[:500], [][]string{{"a", "b", "c"}, {"a", "b", "c", "d"}}) {
		p, whole := spareStrings(start)
		before := slices.Clone(whole)
		parent, _ := impl.ParentOf(p)
		twin, _ := impl.ParentOf(p)
		joined, _ := impl.JoinPath(p, "x")
		other, _ := impl.JoinPath(p, "x")
		text := impl.FormatPath(p)
		parsed, _ := impl.ParsePath(text)
		again, _ := impl.ParsePath(text)
		kept := [][]string{slices.Clone(twin), slices.Clone(other), slices.Clone(again)}
		overwriteStrings(parent)
		overwriteStrings(joined)
		overwriteStrings(parsed)
		if !slices.Equal(whole, before) {
			t.Errorf("a result shares memory with the argument %.60q", start)
		}
		if !slices.Equal(twin, kept[0]) || !slices.Equal(other, kept[1]) || !slices.Equal(again, kept[2]) {
			t.Errorf("two results for %.60q share memory", start)
		}
	}
}
