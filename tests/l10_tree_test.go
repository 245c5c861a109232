package tests

import (
	"fmt"
	"math"
	"slices"
	"testing"

	"loop.example/g00588/impl"
)

// edgeCounts are numbers of leaves that are possible or not, some of which are
// equal to a possible one in fewer bits.
var edgeCounts = []int{
	math.MinInt, math.MinInt + 1, math.MinInt + 5, -1 << 32, -13, -12, -1, 0, 1, 2, 3, 4, 5, 6, 7, 8, 9, 10, 11, 12, 13, 14, 15, 16, 17, 24, 32,
	257, 261, 1<<16 + 5, 1<<32 + 1, 1<<32 + 5, 1<<32 + 12, math.MaxInt - 1, math.MaxInt,
}

// edgeIndices are those of leaves of the counts above, and others.
var edgeIndices = []int{
	math.MinInt, math.MinInt + 1, -1 << 32, 1 - 1<<32, -13, -12, -5, -4, -2, -1, 0, 1, 2, 3, 4, 5, 6, 7, 8, 9, 10, 11, 12, 13, 14, 16,
	256, 260, 1 << 16, 1 << 32, 1<<32 + 4, math.MaxInt - 1, math.MaxInt,
}

// shownInts is a list in a message of a test, cut off where it is long.
func shownInts(values []int) string {
	return fmt.Sprintf("%d values %v", len(values), values[:min(len(values), 20)])
}

func nodeByRule(a int, b int) int {
	return hashByRule([]int{229, a, b})
}

// levelsByRule are the lists of a tree, from the leaves to the top.
func levelsByRule(leaves []int) [][]int {
	levels := [][]int{leaves}
	for len(leaves) > 1 {
		next := []int{}
		for j := 0; j+1 < len(leaves); j += 2 {
			next = append(next, nodeByRule(leaves[j], leaves[j+1]))
		}
		if len(leaves)%2 == 1 {
			next = append(next, leaves[len(leaves)-1])
		}
		leaves = next
		levels = append(levels, leaves)
	}
	return levels
}

func topByRule(leaves []int) int {
	if len(leaves) == 0 {
		return hashByRule([]int{229})
	}
	levels := levelsByRule(leaves)
	return levels[len(levels)-1][0]
}

// pathInLevels returns nothing if there is no leaf i.
func pathInLevels(levels [][]int, i int) []int {
	path := []int{}
	if i < 0 || i >= len(levels[0]) {
		return path
	}
	for k, level := range levels {
		if beside := i>>k ^ 1; beside < len(level) {
			path = append(path, level[beside])
		}
	}
	return path
}

func pathByRule(leaves []int, i int) []int {
	return pathInLevels(levelsByRule(leaves), i)
}

// topFromByRule goes from the top down, not level by level.
func topFromByRule(leaf int, i int, n int, path []int) (int, bool) {
	if n < 1 || n > 12 || i < 0 || i >= n {
		return 0, false
	}
	return topInHalves(leaf, i, n, path)
}

// topInHalves splits a tree below its top: the left half has the greatest power
// of two of leaves that leaves some for the right one.
func topInHalves(leaf int, i int, n int, path []int) (int, bool) {
	if n == 1 {
		return onlyIf(leaf, len(path) == 0)
	}
	if len(path) == 0 {
		return 0, false
	}
	half := 1
	for half*2 < n {
		half *= 2
	}
	rest, last := path[:len(path)-1], path[len(path)-1]
	if i < half {
		left, ok := topInHalves(leaf, i, half, rest)
		return onlyIf(nodeByRule(left, last), ok)
	}
	right, ok := topInHalves(leaf, i-half, n-half, rest)
	return onlyIf(nodeByRule(last, right), ok)
}

// onlyIf returns zero values unless there is a value.
func onlyIf(value int, ok bool) (int, bool) {
	if !ok {
		return 0, false
	}
	return value, true
}

func leavesByRule(list []impl.Entry) []int {
	leaves := []int{}
	for _, e := range list {
		leaves = append(leaves, leafByRule(e))
	}
	return leaves
}

func rootByRule(list []impl.Entry) int {
	return hashByRule([]int{231, len(list), topByRule(leavesByRule(list))})
}

// differentLeaves are lists of n leaves; no two leaves of one list are the same
// modulo Modulus.
func differentLeaves(n int) [][]int {
	all := make([][]int, 7)
	x := n
	for i := range n {
		x = (x*1103515245 + 12345) % modulus
		numbers := []int{i, n - i, modulus - 1 - i, -1 - 1000*i, math.MinInt + i*1000003, math.MaxInt - i*i, x}
		for k, v := range numbers {
			all[k] = append(all[k], v)
		}
	}
	entries := []impl.Entry{}
	for i, label := range zoneLabels()[:min(n, len(zoneLabels()))] {
		entries = append(entries, variedEntry(label, i+n))
	}
	if len(entries) == n {
		all = append(all, leavesByRule(entries))
	}
	return all
}

// equalLeaves are lists of n leaves in which some are equal, or the same modulo
// Modulus, or of all sizes.
func equalLeaves(n int) [][]int {
	all := make([][]int, 8)
	for i := range n {
		numbers := []int{0, -7, math.MinInt, i / 2, i % 2, min(i, n-1-i), i * modulus, edgeKeys[(i*7+n)%len(edgeKeys)]}
		for k, v := range numbers {
			all[k] = append(all[k], v)
		}
	}
	return all
}

func someLeaves(n int) [][]int {
	return slices.Concat(differentLeaves(n), equalLeaves(n))
}

// leafArguments are lists of leaves of all numbers that a zone may have, and of
// others.
func leafArguments() [][]int {
	all := [][]int{nil, {}}
	for n := 1; n <= 20; n++ {
		all = append(all, someLeaves(n)...)
	}
	for _, n := range []int{31, 32, 33, 63, 64, 65, 100, 127, 129} {
		all = append(all, differentLeaves(n)[6], equalLeaves(n)[7])
	}
	return append(all, intLists(5, []int{0, 1, modulus})...)
}

func checkTop(t *testing.T, leaves []int, want int) {
	t.Helper()
	if got := impl.TopOf(leaves); got != want {
		t.Errorf("TopOf(%s) is %d, want %d", shownInts(leaves), got, want)
	}
}

func checkPath(t *testing.T, leaves []int, i int, want []int) {
	t.Helper()
	if got := impl.PathFor(leaves, i); !slices.Equal(got, want) {
		t.Errorf("PathFor(%s, %d) is %v, want %v", shownInts(leaves), i, got, want)
	}
}

func checkTopFrom(t *testing.T, leaf int, i int, n int, path []int) {
	t.Helper()
	want, wantOk := topFromByRule(leaf, i, n, path)
	got, ok := impl.TopFrom(leaf, i, n, path)
	if got != want || ok != wantOk {
		t.Errorf("TopFrom(%d, %d, %d, %s) is %d, %v, want %d, %v", leaf, i, n, shownInts(path), got, ok, want, wantOk)
	}
}

// checkOther fails if this leads to the top.
func checkOther(t *testing.T, top int, leaf int, i int, n int, path []int) {
	t.Helper()
	checkTopFrom(t, leaf, i, n, path)
	if got, ok := impl.TopFrom(leaf, i, n, path); ok && got == top {
		t.Errorf("the leaf %d with the index %d of %d leads to the top %d by %v", leaf, i, n, top, path)
	}
}

// This is promise 10.
func TestEveryLeafLeadsToTheTop(t *testing.T) {
	for n := 1; n <= maxEntries; n++ {
		for _, leaves := range someLeaves(n) {
			top := impl.TopOf(leaves)
			checkTop(t, leaves, topByRule(leaves))
			for i, leaf := range leaves {
				path := impl.PathFor(leaves, i)
				if got, ok := impl.TopFrom(leaf, i, n, path); !ok || got != top {
					t.Errorf("leaf %d of %v leads by %v to %d, %v, not to the top %d", i, leaves, path, got, ok, top)
				}
				checkTopFrom(t, leaf, i, n, path)
			}
		}
	}
}

// otherNumbers are near v, of the given ones, or far away, but not the same
// modulo Modulus.
func otherNumbers(v int, given []int) []int {
	others := append([]int{v + 1, v - 1, v + 2, -v - 1, v ^ 1<<20, 0, 11, 229, modulus - 1, math.MinInt, math.MaxInt}, given...)
	return slices.DeleteFunc(others, func(w int) bool { return isSame(v, w) })
}

func TestNoOtherLeafLeadsToTheTop(t *testing.T) {
	for n := 1; n <= maxEntries; n++ {
		for _, leaves := range differentLeaves(n) {
			top := impl.TopOf(leaves)
			for i, leaf := range leaves {
				path := impl.PathFor(leaves, i)
				for _, other := range otherNumbers(leaf, leaves) {
					checkOther(t, top, other, i, n, path)
				}
			}
		}
	}
}

func TestNoOtherIndexLeadsToTheTop(t *testing.T) {
	for n := 1; n <= maxEntries; n++ {
		for _, leaves := range differentLeaves(n) {
			top := impl.TopOf(leaves)
			for i, leaf := range leaves {
				path := impl.PathFor(leaves, i)
				for j := -2; j < 2*n+3; j++ {
					if j != i {
						checkOther(t, top, leaf, j, n, path)
					}
				}
			}
		}
	}
}

func TestNoOtherPathLeadsToTheTop(t *testing.T) {
	for n := 1; n <= maxEntries; n++ {
		for _, leaves := range differentLeaves(n) {
			top := impl.TopOf(leaves)
			for i, leaf := range leaves {
				path := impl.PathFor(leaves, i)
				for k, beside := range path {
					for _, other := range otherNumbers(beside, append(slices.Clone(leaves), path...)) {
						changed := slices.Clone(path)
						changed[k] = other
						checkOther(t, top, leaf, i, n, changed)
					}
					if k > 0 {
						changed := slices.Clone(path)
						changed[0], changed[k] = path[k], path[0]
						checkTopFrom(t, leaf, i, n, changed)
					}
				}
			}
		}
	}
}

// A zone's own tree: each entry leads from its leaf to the root of the zone.
func TestEveryEntryLeadsToTheRoot(t *testing.T) {
	for _, list := range validContents() {
		leaves := impl.LeavesOf(list)
		for i, e := range list {
			top, ok := impl.TopFrom(impl.LeafOf(e), i, len(list), impl.PathFor(leaves, i))
			if !ok || impl.Hash([]int{231, len(list), top}) != impl.RootOf(list) {
				t.Errorf("entry %d of %s leads to %d, %v", i, shownList(list), top, ok)
			}
		}
	}
}

func TestNodeOf(t *testing.T) {
	for _, c := range []struct{ a, b, want int }{
		{3, 4, 196099302}, {4, 3, 197099304}, {0, 0, 193099289}, {0, 1, 193099290}, {1, 0, 194099292}, {7, 7, 200099317}, {-1, -2, 192099284}, {modulus - 1, modulus - 1, 192099285},
		{modulus, 0, 193099289}, {math.MinInt, math.MaxInt, 191099284}, {math.MaxInt, math.MinInt, 194099290},
	} {
		if got := impl.NodeOf(c.a, c.b); got != c.want || got != impl.Hash([]int{229, c.a, c.b}) {
			t.Errorf("NodeOf(%d, %d) is %d, want %d", c.a, c.b, got, c.want)
		}
	}
	for _, a := range slices.Concat(edgeKeys, edgeValues) {
		for _, b := range slices.Concat(edgeKeys, edgeValues) {
			if got := impl.NodeOf(a, b); got != nodeByRule(a, b) {
				t.Errorf("NodeOf(%d, %d) is %d, want %d", a, b, got, nodeByRule(a, b))
			}
			if !isSame(a, b) && impl.NodeOf(a, b) == impl.NodeOf(b, a) {
				t.Errorf("NodeOf of %d and %d does not depend on their order", a, b)
			}
		}
	}
}

// forms are the trees of 1 to 17 leaves, which are letters here: both elements
// that are replaced by a node are in brackets.
var forms = []string{
	"a", "(ab)", "((ab)c)", "((ab)(cd))", "(((ab)(cd))e)", "(((ab)(cd))(ef))", "(((ab)(cd))((ef)g))", "(((ab)(cd))((ef)(gh)))",
	"((((ab)(cd))((ef)(gh)))i)", "((((ab)(cd))((ef)(gh)))(ij))", "((((ab)(cd))((ef)(gh)))((ij)k))", "((((ab)(cd))((ef)(gh)))((ij)(kl)))",
	"((((ab)(cd))((ef)(gh)))(((ij)(kl))m))", "((((ab)(cd))((ef)(gh)))(((ij)(kl))(mn)))", "((((ab)(cd))((ef)(gh)))(((ij)(kl))((mn)o)))", "((((ab)(cd))((ef)(gh)))(((ij)(kl))((mn)(op))))",
	"(((((ab)(cd))((ef)(gh)))(((ij)(kl))((mn)(op))))q)",
}

// readForm returns the top of the form that begins at a position, the path of
// each of its leaves, and the position after it.
func readForm(form string, at int, leaves []int) (int, map[int][]int, int) {
	if form[at] != '(' {
		i := int(form[at] - 'a')
		return leaves[i], map[int][]int{i: {}}, at + 1
	}
	left, paths, at := readForm(form, at+1, leaves)
	right, others, at := readForm(form, at, leaves)
	for i, path := range paths {
		paths[i] = append(path, right)
	}
	for i, path := range others {
		paths[i] = append(path, left)
	}
	return nodeByRule(left, right), paths, at + 1
}

func TestTreesOfAllForms(t *testing.T) {
	for n, form := range forms {
		n++
		for _, leaves := range someLeaves(n) {
			top, paths, _ := readForm(form, 0, leaves)
			if len(paths) != n {
				t.Fatalf("the form %s has %d leaves, not %d", form, len(paths), n)
			}
			checkTop(t, leaves, top)
			for i, path := range paths {
				checkPath(t, leaves, i, path)
				got, ok := impl.TopFrom(leaves[i], i, n, path)
				if want, wantOk := onlyIf(top, n <= 12); got != want || ok != wantOk {
					t.Errorf("TopFrom(%d, %d, %d, %v) is %d, %v, want %d, %v", leaves[i], i, n, path, got, ok, want, wantOk)
				}
			}
		}
	}
}

func TestTopOf(t *testing.T) {
	counted := []int{3, 4, 5, 6, 7, 8, 9, 10, 11, 12, 13, 14, 15, 16, 17, 18, 19}
	for n, want := range []int{
		11000275, 3, 196099302, 466687748, 664787053, 1317793253, 1517892564, 1050446685, 1252546002, 50853498, 254952821, 1196956264, 1403055593,
		378552619, 586651954, 790621072, 1000720413, 523725841,
	} {
		checkTop(t, counted[:n], want)
	}
	checkTop(t, nil, 11000275)
	checkTop(t, []int{}, impl.Hash([]int{229}))
	for _, v := range slices.Concat(edgeKeys, edgeValues) {
		checkTop(t, []int{v}, v)
		checkTop(t, []int{v, v}, nodeByRule(v, v))
		checkTop(t, []int{v, v, v}, nodeByRule(nodeByRule(v, v), v))
	}
	for _, leaves := range leafArguments() {
		checkTop(t, leaves, topByRule(leaves))
	}
}

// Another list has another top.
func TestTopsOfOtherLists(t *testing.T) {
	for n := 1; n <= 20; n++ {
		for _, leaves := range differentLeaves(n) {
			top := impl.TopOf(leaves)
			others := [][]int{leaves[:n-1], append(slices.Clone(leaves), leaves[n-1]), append(slices.Clone(leaves), 0)}
			for i, leaf := range leaves {
				for _, other := range []int{leaf + 1, leaf - 5, -leaf - 1, leaves[i/2] + 1000} {
					if !isSame(leaf, other) {
						changed := slices.Clone(leaves)
						changed[i] = other
						others = append(others, changed)
					}
				}
			}
			for _, other := range others {
				if impl.TopOf(other) == top {
					t.Errorf("%v and %v have the same top", leaves, other)
				}
			}
		}
	}
}

// timesLeft counts the nodes above leaf i of n that have it on their left.
func timesLeft(i int, n int) int {
	count := 0
	for n > 1 {
		if i%2 == 0 && i+1 < n {
			count++
		}
		i, n = i/2, (n+1)/2
	}
	return count
}

// The document's Hash is linear: what a leaf adds to the top depends only on how
// often it is on the left, so leaves that are there equally often, as the second
// and the third of four, can be exchanged.
func TestExchangedLeaves(t *testing.T) {
	same, different := 0, 0
	for n := 1; n <= 20; n++ {
		for _, leaves := range differentLeaves(n) {
			top := impl.TopOf(leaves)
			for i, leaf := range leaves {
				for j := range i {
					changed := slices.Clone(leaves)
					changed[i], changed[j] = leaves[j], leaf
					got, want := impl.TopOf(changed) == top, timesLeft(i, n) == timesLeft(j, n)
					if got != want {
						t.Errorf("%v with the leaves %d and %d exchanged has the same top: %v", leaves, j, i, got)
					}
					if got {
						same++
					} else {
						different++
					}
				}
			}
		}
	}
	if same < 1000 || different < 1000 {
		t.Errorf("%d exchanges keep the top, %d do not", same, different)
	}
}

func TestPathFor(t *testing.T) {
	list := []int{3, 4, 5, 6, 7}
	four := impl.NodeOf(impl.NodeOf(3, 4), impl.NodeOf(5, 6))
	for _, c := range []struct {
		leaves []int
		i      int
		want   []int
	}{
		{list, 0, []int{4, impl.NodeOf(5, 6), 7}}, {list, 1, []int{3, impl.NodeOf(5, 6), 7}}, {list, 2, []int{6, impl.NodeOf(3, 4), 7}}, {list, 3, []int{5, impl.NodeOf(3, 4), 7}}, {list, 4, []int{four}},
		{list[:3], 0, []int{4, 5}}, {list[:3], 1, []int{3, 5}}, {list[:3], 2, []int{impl.NodeOf(3, 4)}}, {list[:2], 0, []int{4}}, {list[:2], 1, []int{3}}, {list[:4], 3, []int{5, impl.NodeOf(3, 4)}},
		{[]int{3, 4, 5, 6, 7, 8}, 4, []int{8, four}}, {[]int{3, 4, 5, 6, 7, 8}, 5, []int{7, four}}, {[]int{3, 4, 5, 6, 7, 8, 9}, 6, []int{impl.NodeOf(7, 8), four}}, {[]int{3, 4, 5, 6, 7, 8, 9}, 0, []int{4, impl.NodeOf(5, 6), impl.NodeOf(impl.NodeOf(7, 8), 9)}},
		// The neighbour comes as it is.
		{[]int{math.MinInt, math.MaxInt}, 0, []int{math.MaxInt}}, {[]int{math.MinInt, math.MaxInt}, 1, []int{math.MinInt}}, {[]int{1, 2, -modulus}, 0, []int{2, -modulus}}, {[]int{7, 7}, 0, []int{7}}, {[]int{7, 7, 7}, 2, []int{impl.NodeOf(7, 7)}},
		// One leaf has no neighbour.
		{[]int{9}, 0, nil}, {[]int{math.MinInt}, 0, nil},
		// There is no such leaf.
		{list, -1, nil}, {list, 5, nil}, {list, 6, nil}, {list, 8, nil}, {list, math.MinInt, nil}, {list, math.MaxInt, nil}, {list, 1 << 32, nil}, {list, -5, nil}, {[]int{9}, 1, nil}, {[]int{9}, -1, nil}, {nil, 0, nil}, {nil, -1, nil}, {[]int{}, 0, nil}, {nil, math.MinInt, nil}, {nil, math.MaxInt, nil},
	} {
		checkPath(t, c.leaves, c.i, c.want)
	}
	for _, leaves := range leafArguments() {
		levels := levelsByRule(leaves)
		for _, i := range edgeIndices {
			checkPath(t, leaves, i, pathInLevels(levels, i))
		}
		for i := -2; i < len(leaves)+3; i++ {
			checkPath(t, leaves, i, pathInLevels(levels, i))
		}
	}
}

func TestLengthsOfPaths(t *testing.T) {
	for n, want := range [][]int{
		nil, {0}, {1, 1}, {2, 2, 1}, {2, 2, 2, 2}, {3, 3, 3, 3, 1}, {3, 3, 3, 3, 2, 2}, {3, 3, 3, 3, 3, 3, 2}, {3, 3, 3, 3, 3, 3, 3, 3},
		{4, 4, 4, 4, 4, 4, 4, 4, 1}, {4, 4, 4, 4, 4, 4, 4, 4, 2, 2}, {4, 4, 4, 4, 4, 4, 4, 4, 3, 3, 2}, {4, 4, 4, 4, 4, 4, 4, 4, 3, 3, 3, 3}, {4, 4, 4, 4, 4, 4, 4, 4, 4, 4, 4, 4, 2},
	} {
		for _, leaves := range someLeaves(n) {
			for i := -1; i <= n; i++ {
				length := 0
				if i >= 0 && i < n {
					length = want[i]
				}
				path := impl.PathFor(leaves, i)
				if len(path) != length {
					t.Errorf("PathFor(%v, %d) has %d elements, want %d", leaves, i, len(path), length)
				}
			}
		}
	}
}

func TestTopFrom(t *testing.T) {
	pair := impl.NodeOf(3, 4)
	for _, c := range []struct {
		leaf, i, n int
		path       []int
		want       int
		ok         bool
	}{
		{9, 0, 1, nil, 9, true}, {9, 0, 1, []int{}, 9, true}, {-9, 0, 1, nil, -9, true}, {math.MinInt, 0, 1, nil, math.MinInt, true}, {math.MaxInt, 0, 1, []int{}, math.MaxInt, true}, {0, 0, 1, nil, 0, true},
		{3, 0, 2, []int{4}, pair, true}, {4, 1, 2, []int{3}, pair, true}, {3, 0, 3, []int{4, 5}, impl.NodeOf(pair, 5), true}, {4, 1, 3, []int{3, 5}, impl.NodeOf(pair, 5), true}, {5, 2, 3, []int{pair}, impl.NodeOf(pair, 5), true},
		{3, 0, 12, []int{1, 2, 3, 4}, impl.NodeOf(impl.NodeOf(impl.NodeOf(impl.NodeOf(3, 1), 2), 3), 4), true}, {3, 11, 12, []int{1, 2, 5}, impl.NodeOf(5, impl.NodeOf(2, impl.NodeOf(1, 3))), true},
		{3, 8, 9, []int{4}, impl.NodeOf(4, 3), true}, {3, 10, 11, []int{4, 5}, impl.NodeOf(5, impl.NodeOf(4, 3)), true},
		// The path is too short, too long or missing.
		{9, 0, 1, []int{1}, 0, false}, {9, 0, 1, []int{0}, 0, false}, {9, 0, 1, []int{1, 2}, 0, false}, {3, 0, 2, nil, 0, false}, {3, 0, 2, []int{}, 0, false}, {3, 0, 2, []int{4, 5}, 0, false}, {3, 0, 3, []int{4}, 0, false}, {3, 0, 3, nil, 0, false}, {3, 0, 3, []int{4, 5, 6}, 0, false}, {5, 2, 3, []int{4, 5}, 0, false}, {5, 2, 3, nil, 0, false},
		{3, 8, 9, []int{1, 2}, 0, false}, {3, 8, 9, []int{1, 2, 3, 4}, 0, false}, {3, 10, 11, []int{4}, 0, false}, {3, 10, 11, []int{4, 5, 6}, 0, false},
		// There is no such leaf.
		{3, -1, 2, []int{4}, 0, false}, {3, 2, 2, []int{4}, 0, false}, {3, 3, 2, []int{4}, 0, false}, {9, 1, 1, nil, 0, false}, {9, -1, 1, nil, 0, false}, {3, 5, 5, nil, 0, false}, {3, 5, 5, []int{1}, 0, false}, {9, math.MinInt, 1, nil, 0, false}, {9, math.MaxInt, 1, nil, 0, false}, {9, 1 << 32, 1, nil, 0, false},
		// There are no leaves, or too many.
		{9, 0, 0, nil, 0, false}, {9, -1, 0, nil, 0, false}, {9, 0, -1, nil, 0, false}, {9, -1, -1, nil, 0, false}, {9, -2, -1, nil, 0, false}, {9, 0, math.MinInt, nil, 0, false}, {9, math.MinInt, math.MinInt, nil, 0, false}, {9, math.MaxInt, math.MinInt, nil, 0, false}, {3, 0, 13, nil, 0, false}, {3, 0, 13, []int{1, 2, 3, 4}, 0, false}, {3, 12, 13, []int{1, 2}, 0, false}, {3, 0, 16, []int{1, 2, 3, 4}, 0, false}, {3, 0, math.MaxInt, []int{1, 2, 3, 4}, 0, false}, {9, 0, 1<<32 + 1, nil, 0, false},
	} {
		if got, ok := impl.TopFrom(c.leaf, c.i, c.n, c.path); got != c.want || ok != c.ok {
			t.Errorf("TopFrom(%d, %d, %d, %v) is %d, %v, want %d, %v", c.leaf, c.i, c.n, c.path, got, ok, c.want, c.ok)
		}
	}
}

func TestTopFromOfAllArguments(t *testing.T) {
	long, found := dataInts(40), 0
	for _, n := range edgeCounts {
		for _, i := range edgeIndices {
			for _, leaf := range []int{0, -5, 7, math.MinInt, math.MaxInt} {
				checkTopFrom(t, leaf, i, n, nil)
				checkTopFrom(t, leaf, i, n, long)
				for length := range 8 {
					checkTopFrom(t, leaf, i, n, long[:length])
					if _, ok := impl.TopFrom(leaf, i, n, long[:length]); ok {
						found++
					}
				}
			}
		}
	}
	// One length for each leaf of 1 to 12, with each of the five numbers.
	if want := 5 * 12 * 13 / 2; found != want {
		t.Errorf("TopFrom returns true %d times, want %d", found, want)
	}
}

// The path of a leaf with elements more or less is not the required one.
func TestTopFromWithPathsOfOtherLengths(t *testing.T) {
	for n := 1; n <= maxEntries; n++ {
		for _, leaves := range someLeaves(n) {
			top := impl.TopOf(leaves)
			for i, leaf := range leaves {
				path := impl.PathFor(leaves, i)
				others := [][]int{append(slices.Clone(path), top), append(slices.Clone(path), 0), append([]int{0}, path...), append([]int{leaf}, path...), slices.Concat(path, dataInts(30))}
				for k := range path {
					others = append(others, path[:k], path[k+1:], slices.Insert(slices.Clone(path), k, path[k]), slices.Delete(slices.Clone(path), k, k+1))
				}
				for _, other := range others {
					if got, ok := impl.TopFrom(leaf, i, n, other); ok || got != 0 {
						t.Errorf("TopFrom(%d, %d, %d, %v) is %d, %v, though the path is %v", leaf, i, n, other, got, ok, path)
					}
				}
			}
		}
	}
}

// More leaves than MaxEntries have a top and paths, which TopFrom refuses.
func TestTopFromOfTooManyLeaves(t *testing.T) {
	for _, n := range []int{13, 14, 15, 16, 17, 24, 25, 32, 64, 100} {
		leaves := differentLeaves(n)[6]
		checkTop(t, leaves, topByRule(leaves))
		for i, leaf := range leaves {
			path := impl.PathFor(leaves, i)
			checkPath(t, leaves, i, pathByRule(leaves, i))
			if got, ok := impl.TopFrom(leaf, i, n, path); ok || got != 0 {
				t.Errorf("TopFrom(%d, %d, %d, %v) is %d, %v", leaf, i, n, path, got, ok)
			}
		}
	}
}

// contentArguments are lists of entries of all numbers, valid contents or not.
func contentArguments() [][]impl.Entry {
	return slices.Concat([][]impl.Entry{nil, {}}, validContents(), fullContents(), smallLists(), brokenContents(), anyLists())
}

func checkRoot(t *testing.T, list []impl.Entry, want int) {
	t.Helper()
	if got := impl.RootOf(list); got != want {
		t.Errorf("RootOf(%s) is %d, want %d", shownList(list), got, want)
	}
}

func TestRootOf(t *testing.T) {
	ann, bob, shop := entryOf("ann", 1, 7), entryOf("bob", 3, 9, "x", "y"), entryOf("shop", 2, 12345)
	for _, c := range []struct {
		list []impl.Entry
		want int
	}{
		{nil, 908824225}, {[]impl.Entry{}, 908824225}, {[]impl.Entry{ann}, 1031714379}, {[]impl.Entry{bob}, 1415178212}, {[]impl.Entry{ann, bob}, 1850905128}, {[]impl.Entry{ann, bob, shop}, 1951092841},
		// The list need not be valid contents.
		{[]impl.Entry{bob, ann}, 1033406239}, {slices.Repeat([]impl.Entry{ann}, 13), 1734879027}, {[]impl.Entry{{}}, 1592627838}, {[]impl.Entry{{Path: []string{}}}, 1592627838},
	} {
		checkRoot(t, c.list, c.want)
	}
	for _, list := range contentArguments() {
		checkRoot(t, list, rootByRule(list))
	}
}

// The number of entries is part of the root, which is not the top itself.
func TestRootsHaveTheirNumber(t *testing.T) {
	for _, list := range contentArguments() {
		top := impl.TopOf(impl.LeavesOf(list))
		root := impl.RootOf(list)
		for _, n := range []int{len(list) - 1, len(list) + 1, 0, 1, 12} {
			if same := root == impl.Hash([]int{231, n, top}); same != (n == len(list)) {
				t.Errorf("RootOf(%s) with the number %d: %v", shownList(list), n, same)
			}
		}
		if root == top || root == impl.Hash([]int{229, len(list), top}) {
			t.Errorf("RootOf(%s) is a node of a tree", shownList(list))
		}
	}
}

// Contents with one entry more, less or changed have another root, as have most
// of those with two entries exchanged.
func TestRootsOfOtherContents(t *testing.T) {
	for _, list := range validContents() {
		root := impl.RootOf(list)
		others := [][]impl.Entry{with(list, len(list), entryOf("zzzzzzzz", 1, 8)), with(list, 0, entryOf("0", 1, 8))}
		for i, e := range list {
			others = append(others, slices.Delete(slices.Clone(list), i, i+1), with(list, i, e))
			for _, other := range changedEntries(e) {
				if !isSame(leafByRule(e), leafByRule(other)) {
					others = append(others, replaced(list, i, other))
				}
			}
			for j := range i {
				if timesLeft(i, len(list)) != timesLeft(j, len(list)) {
					others = append(others, swapped(list, j, i))
				}
			}
		}
		for _, other := range others {
			if impl.RootOf(other) == root {
				t.Errorf("%s and %s have the same root", shownList(list), shownList(other))
			}
		}
	}
}

func TestLeavesOf(t *testing.T) {
	ann, bob, shop := entryOf("ann", 1, 7), entryOf("bob", 3, 9, "x", "y"), entryOf("shop", 2, 12345)
	for _, c := range []struct {
		list []impl.Entry
		want []int
	}{
		{nil, nil}, {[]impl.Entry{}, nil}, {[]impl.Entry{ann}, []int{132890426}}, {[]impl.Entry{ann, bob, shop}, []int{132890426, 516354259, 831960378}}, {[]impl.Entry{shop, ann, bob, ann}, []int{831960378, 132890426, 516354259, 132890426}}, {[]impl.Entry{{}, bob, {}}, []int{693803885, 516354259, 693803885}},
	} {
		if got := impl.LeavesOf(c.list); !slices.Equal(got, c.want) {
			t.Errorf("LeavesOf(%s) is %v, want %v", shownList(c.list), got, c.want)
		}
	}
	for _, list := range contentArguments() {
		if got, want := impl.LeavesOf(list), leavesByRule(list); !slices.Equal(got, want) {
			t.Errorf("LeavesOf(%s) is %s, want %s", shownList(list), shownInts(got), shownInts(want))
		}
	}
}

func TestTreeFunctionsLeaveTheirArguments(t *testing.T) {
	for _, start := range leafArguments() {
		leaves, whole := spareInts(start)
		before := slices.Clone(whole)
		impl.TopOf(leaves)
		for _, i := range []int{-1, 0, len(start) / 2, len(start) - 1, len(start)} {
			overwriteInts(impl.PathFor(leaves, i))
			path, wholePath := spareInts(pathByRule(start, i))
			pathBefore := slices.Clone(wholePath)
			impl.TopFrom(3, i, len(start), path)
			impl.TopFrom(3, i, len(start), wholePath)
			if !slices.Equal(wholePath, pathBefore) {
				t.Errorf("TopFrom wrote into the path %v or its spare capacity", path)
			}
		}
		if !slices.Equal(whole, before) {
			t.Errorf("a function wrote into %s or its spare capacity, or shares memory with it", shownInts(start))
		}
	}
}

func TestFunctionsOfRootsLeaveTheirArguments(t *testing.T) {
	for _, start := range argumentLists() {
		list, whole := spareEntries(start)
		before := wholeEntries(whole)
		impl.RootOf(list)
		overwriteInts(impl.LeavesOf(list))
		if !sameByRule(list, start) || !sameByRule(wholeEntries(whole), before) {
			t.Errorf("a function wrote into %s or its spare capacity", shownList(start))
		}
	}
}

// What is done to an argument or to another result does not reach a result.
func TestResultsOfTreesAreTheirOwn(t *testing.T) {
	for _, start := range leafArguments() {
		for i := range min(len(start), 13) {
			leaves, whole := spareInts(start)
			path := impl.PathFor(leaves, i)
			overwriteInts(impl.PathFor(leaves, i))
			overwriteInts(whole)
			if want := pathByRule(start, i); !slices.Equal(path, want) {
				t.Errorf("PathFor(%s, %d) changed afterwards from %v to %v", shownInts(start), i, want, path)
			}
		}
	}
	for _, start := range argumentLists() {
		list, whole := spareEntries(start)
		leaves := impl.LeavesOf(list)
		overwriteInts(impl.LeavesOf(list))
		overwriteEntries(whole)
		if want := leavesByRule(start); !slices.Equal(leaves, want) {
			t.Errorf("LeavesOf(%s) changed afterwards from %v to %v", shownList(start), want, leaves)
		}
	}
}

// Every function returns for arguments of any size.
func TestLargeTrees(t *testing.T) {
	for _, n := range []int{1000, 1023, 1024, 1025, 4097, 65537, 100001} {
		leaves := dataInts(n)
		levels := levelsByRule(leaves)
		checkTop(t, leaves, levels[len(levels)-1][0])
		for _, i := range []int{-1, 0, 1, n / 3, n / 2, n - 2, n - 1, n, math.MinInt, math.MaxInt} {
			path := pathInLevels(levels, i)
			checkPath(t, leaves, i, path)
			for _, count := range []int{n, 12, 1, 0, -n, math.MinInt, math.MaxInt} {
				checkTopFrom(t, 7, i, count, path)
				checkTopFrom(t, 7, i, count, leaves)
			}
		}
	}
	many := slices.Repeat([]impl.Entry{entryOf("a", 1, 7), entryOf("b", 3, 7, "x", "", "\xff"), {}}, 7000)
	checkRoot(t, many, rootByRule(many))
	if got := impl.LeavesOf(many); !slices.Equal(got, leavesByRule(many)) {
		t.Errorf("the leaves of %d entries are %s", len(many), shownInts(got))
	}
}
