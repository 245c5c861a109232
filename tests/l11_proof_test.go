package tests

import (
	"fmt"
	"math"
	"math/big"
	"slices"
	"strings"
	"testing"

	"loop.example/g00588/impl"
)

// proofOf returns a proof that may be one of an entry or not.
func proofOf(at int, path ...int) impl.Proof {
	return impl.Proof{At: at, Path: path}
}

// shownProof is a proof in a message of a test, cut off where it is long.
func shownProof(p impl.Proof) string {
	return fmt.Sprintf("{%d, %s}", p.At, shownInts(p.Path))
}

func equalProofsByRule(a impl.Proof, b impl.Proof) bool {
	return a.At == b.At && slices.Equal(a.Path, b.Path)
}

// proofByRule needs the levels of the tree of the list, so that they are
// computed once for all labels.
func proofByRule(list []impl.Entry, levels [][]int, label string) (impl.Proof, bool) {
	at := findByRule(list, label)
	if at < 0 {
		return impl.Proof{}, false
	}
	return proofOf(at, pathInLevels(levels, at)...), true
}

func rootOfTop(n int, top int) int {
	return hashByRule([]int{231, n, top})
}

// shownByRule follows the document's words.
func shownByRule(root int, count int, e impl.Entry, p impl.Proof) bool {
	if !isEntryByRule(e) {
		return false
	}
	top, ok := topFromByRule(leafByRule(e), p.At, count, p.Path)
	return ok && rootOfTop(count, top) == root
}

// provedContents are valid contents of every number of entries from 1 to
// MaxEntries: entries of all kinds, and entries of one kind alone.
func provedContents() [][]impl.Entry {
	all := slices.DeleteFunc(validContents(), func(list []impl.Entry) bool { return len(list) == 0 })
	labels := zoneLabels()
	for n := 1; n <= maxEntries; n++ {
		for k := range kindsOf("a") {
			list := []impl.Entry{}
			for _, label := range labels[k : k+n] {
				list = append(list, kindsOf(label)[k])
			}
			all = append(all, list)
		}
	}
	return all
}

// shownCase is an entry of contents with all that shows it.
type shownCase struct {
	list   []impl.Entry
	root   int
	leaves []int
	i      int
	entry  impl.Entry
	proof  impl.Proof
}

// shownCases are every entry of each of the lists.
func shownCases(lists [][]impl.Entry) []shownCase {
	all := []shownCase{}
	for _, list := range lists {
		leaves := leavesByRule(list)
		root, levels := rootOfTop(len(list), topByRule(leaves)), levelsByRule(leaves)
		for i, e := range list {
			all = append(all, shownCase{list, root, leaves, i, e, proofOf(i, pathInLevels(levels, i)...)})
		}
	}
	return all
}

func checkProve(t *testing.T, list []impl.Entry, levels [][]int, label string) {
	t.Helper()
	want, wantOk := proofByRule(list, levels, label)
	got, ok := impl.ProveEntry(list, label)
	if !equalProofsByRule(got, want) || ok != wantOk {
		t.Errorf("ProveEntry(%s, %.40q) is %s, %v, want %s, %v", shownList(list), label, shownProof(got), ok, shownProof(want), wantOk)
	}
}

func checkShown(t *testing.T, root int, count int, e impl.Entry, p impl.Proof, want bool) {
	t.Helper()
	if got := impl.CheckEntry(root, count, e, p); got != want {
		t.Errorf("CheckEntry(%d, %d, %s, %s) is %v", root, count, shown(e), shownProof(p), got)
	}
}

func checkByRule(t *testing.T, root int, count int, e impl.Entry, p impl.Proof) {
	t.Helper()
	checkShown(t, root, count, e, p, shownByRule(root, count, e, p))
}

// otherRoots are not root, but near it, the same modulo Modulus, or made of the
// same numbers in another way.
func otherRoots(root int, n int, top int) []int {
	others := []int{
		root + 1, root - 1, -root, -root - 1, root + modulus, root - modulus, root + 1<<32, root ^ 1<<30, 0, 1, -1, 11, modulus - 1, modulus, math.MinInt, math.MaxInt, top,
		rootOfTop(n+1, top), rootOfTop(n-1, top), rootOfTop(top, n), hashByRule([]int{229, n, top}), hashByRule([]int{231, top}), hashByRule([]int{n, top}), hashByRule([]int{231, n, top, 0}),
	}
	return slices.DeleteFunc(others, func(other int) bool { return other == root })
}

// This is the first half of promise 11: every entry is shown by its proof.
func TestEveryEntryIsShown(t *testing.T) {
	sizes, kinds := map[int]int{}, map[int]int{}
	for _, list := range provedContents() {
		leaves, root := impl.LeavesOf(list), impl.RootOf(list)
		for i, e := range list {
			p, ok := impl.ProveEntry(list, e.Label)
			if !ok || p.At != i || !slices.Equal(p.Path, impl.PathFor(leaves, i)) || !slices.Equal(p.Path, pathByRule(leaves, i)) {
				t.Errorf("ProveEntry(%s, %q) is %s, %v", shownList(list), e.Label, shownProof(p), ok)
			}
			checkShown(t, root, len(list), e, p, true)
			copied := entryOf(strings.Clone(e.Label), e.Kind, e.Value, slices.Clone(e.Path)...)
			checkShown(t, root, len(list), copied, proofOf(i, slices.Clone(p.Path)...), true)
			sizes[len(list)]++
			kinds[e.Kind]++
		}
	}
	if len(sizes) != maxEntries || sizes[1] < 15 || sizes[maxEntries] < 200 || min(kinds[1], kinds[2], kinds[3]) < 300 {
		t.Errorf("entries were shown in contents of the sizes %v, of the kinds %v", sizes, kinds)
	}
}

// This, with the tests below it, is the second half of promise 11: a proof shows
// nothing else.
func TestNoOtherEntryIsShown(t *testing.T) {
	for _, c := range shownCases(provedContents()) {
		others := slices.Concat(c.list, changedEntries(c.entry), kindsOf(c.entry.Label), kindsOf("new"), brokenEntriesOf(c.entry.Label)[:28], []impl.Entry{{}})
		for _, other := range others {
			if !isSame(leafByRule(other), c.leaves[c.i]) {
				checkShown(t, c.root, len(c.list), other, c.proof, false)
			}
		}
	}
}

func TestNoOtherRootIsShown(t *testing.T) {
	for _, c := range shownCases(provedContents()) {
		others := otherRoots(c.root, len(c.list), topByRule(c.leaves))
		if len(c.list) > 1 {
			others = append(others, impl.RootOf(c.list[1:]), impl.RootOf(c.list[:len(c.list)-1]), impl.RootOf(nil))
		}
		for _, root := range others {
			checkShown(t, root, len(c.list), c.entry, c.proof, false)
		}
	}
}

func TestNoOtherCountIsShown(t *testing.T) {
	for _, c := range shownCases(provedContents()) {
		n := len(c.list)
		others := append([]int{n + 1, n - 1, -n, n + modulus, n - modulus, n + 1<<32, n * 2, c.i, c.i + 1}, edgeCounts...)
		for _, count := range others {
			if count != n {
				checkShown(t, c.root, count, c.entry, c.proof, false)
			}
		}
	}
}

func TestNoOtherIndexIsShown(t *testing.T) {
	for _, c := range shownCases(provedContents()) {
		others := append([]int{c.i + 1, c.i - 1, -c.i - 1, c.i + 1<<32, c.i + len(c.list), c.i - len(c.list), c.i + modulus, c.i ^ 16}, edgeIndices...)
		for at := range 2*len(c.list) + 3 {
			others = append(others, at)
		}
		for _, at := range others {
			if at != c.i {
				checkShown(t, c.root, len(c.list), c.entry, proofOf(at, c.proof.Path...), false)
			}
		}
	}
}

func TestNoOtherPathIsShown(t *testing.T) {
	for _, c := range shownCases(provedContents()) {
		for k, beside := range c.proof.Path {
			for _, other := range otherNumbers(beside, slices.Concat(c.leaves, c.proof.Path)) {
				path := slices.Clone(c.proof.Path)
				path[k] = other
				checkShown(t, c.root, len(c.list), c.entry, proofOf(c.i, path...), false)
			}
			path := slices.Clone(c.proof.Path)
			path[0], path[k] = path[k], path[0]
			checkByRule(t, c.root, len(c.list), c.entry, proofOf(c.i, path...))
		}
	}
}

// A path of another length is none, whatever its elements are.
func TestNoOtherLengthIsShown(t *testing.T) {
	for _, c := range shownCases(provedContents()) {
		path, top := c.proof.Path, topByRule(c.leaves)
		more := []int{0, 1, -1, top, c.root, c.leaves[c.i], c.leaves[0], hashByRule([]int{229}), modulus, math.MinInt, math.MaxInt}
		others := [][]int{append(slices.Clone(path), dataInts(30)...), slices.Concat(path, path, []int{0})}
		for k := range len(path) + 1 {
			for _, v := range append(more, path...) {
				others = append(others, slices.Insert(slices.Clone(path), k, v))
			}
			if k < len(path) {
				others = append(others, slices.Delete(slices.Clone(path), k, k+1), path[:k])
			}
		}
		for _, other := range others {
			checkShown(t, c.root, len(c.list), c.entry, proofOf(c.i, other...), false)
		}
	}
}

// What a proof with one step too many leads to is not the root of anything.
func TestOneStepTooMany(t *testing.T) {
	for _, c := range shownCases(provedContents()) {
		n, top := len(c.list), topByRule(c.leaves)
		for _, v := range []int{0, top, c.leaves[0], math.MinInt} {
			long := proofOf(c.i, append(slices.Clone(c.proof.Path), v)...)
			for _, above := range []int{nodeByRule(top, v), nodeByRule(v, top), v, top} {
				checkShown(t, rootOfTop(n, above), n, c.entry, long, false)
				for _, count := range []int{n + 1, n * 2, maxEntries} {
					checkByRule(t, rootOfTop(count, above), count, c.entry, long)
				}
			}
		}
	}
}

// What a proof with one step too few, or with none, leads to is not the root of
// anything, whatever is put in place of what is missing.
func TestTooFewSteps(t *testing.T) {
	for _, c := range shownCases(provedContents()) {
		n, path, leaf := len(c.list), c.proof.Path, c.leaves[c.i]
		for k, beside := range path {
			short := slices.Delete(slices.Clone(path), k, k+1)
			tops := []int{0, leaf, beside, topByRule(c.leaves), nodeByRule(leaf, path[0]), nodeByRule(path[0], leaf)}
			for _, v := range []int{0, leaf, path[0], hashByRule([]int{229})} {
				for _, at := range []int{0, k, len(short)} {
					top, _ := topFromByRule(leaf, c.i, n, slices.Insert(slices.Clone(short), at, v))
					tops = append(tops, top)
				}
				top, _ := topFromByRule(leaf, c.i, n, slices.Repeat([]int{v}, len(path)))
				checkShown(t, rootOfTop(n, top), n, c.entry, proofOf(c.i), false)
			}
			for _, top := range tops {
				checkShown(t, rootOfTop(n, top), n, c.entry, proofOf(c.i, short...), false)
				checkShown(t, rootOfTop(n, top), n, c.entry, proofOf(c.i), false)
			}
		}
	}
}

// The proof of one entry shows no other one of the same list.
func TestProofsAreNotExchanged(t *testing.T) {
	for _, list := range provedContents() {
		root, n := impl.RootOf(list), len(list)
		for j, other := range list {
			p, _ := impl.ProveEntry(list, other.Label)
			for i, e := range list {
				checkShown(t, root, n, e, p, i == j)
				checkShown(t, root, n, e, proofOf(i, p.Path...), i == j)
			}
		}
	}
}

// By the document's Hash leaves that are equally often on the left can be
// exchanged: an entry is then shown under the other index by another path.
func TestExchangedEntries(t *testing.T) {
	same, different := 0, 0
	for _, list := range provedContents() {
		root, n := impl.RootOf(list), len(list)
		for i, e := range list {
			for j, other := range list {
				exchanged := swapped(list, i, j)
				p, _ := impl.ProveEntry(exchanged, e.Label)
				want := timesLeft(i, n) == timesLeft(j, n)
				checkShown(t, root, n, e, p, want)
				checkShown(t, root, n, other, p, i == j)
				if want && i != j {
					same++
				} else {
					different++
				}
			}
		}
	}
	if same < 1000 || different < 1000 {
		t.Errorf("%d entries are shown under another index, %d are not", same, different)
	}
}

// sameLeaf are entries that are not valid, with the same leaf as e has: Hash
// reduces its numbers.
func sameLeaf(e impl.Entry) []impl.Entry {
	same := []impl.Entry{}
	for _, add := range []int{modulus, -modulus, 5 * modulus, -5 * modulus} {
		same = append(same, entryOf(e.Label, e.Kind+add, e.Value, e.Path...), entryOf(e.Label, e.Kind, e.Value+add, e.Path...), entryOf(e.Label, e.Kind+add, e.Value-add, e.Path...))
	}
	return same
}

func TestNoInvalidEntryIsShown(t *testing.T) {
	for _, c := range shownCases(provedContents()) {
		for _, other := range sameLeaf(c.entry) {
			if impl.IsEntry(other) || impl.LeafOf(other) != impl.LeafOf(c.entry) {
				t.Fatalf("%s is valid, or has not the leaf of %s", shown(other), shown(c.entry))
			}
			checkShown(t, c.root, len(c.list), other, c.proof, false)
		}
	}
}

// Entries that are not valid have roots and paths, which fit, all the same.
func TestNoInvalidEntryOfAListIsShown(t *testing.T) {
	for n := 1; n <= maxEntries; n++ {
		list := variedEntries(zoneLabels()[3:3+n], n)
		for i, e := range list {
			for _, other := range append(brokenEntriesOf(e.Label), impl.Entry{}) {
				changed := replaced(list, i, other)
				p, ok := impl.ProveEntry(changed, other.Label)
				if !ok || p.At != i {
					t.Fatalf("ProveEntry(%s, %.40q) is %s, %v", shownList(changed), other.Label, shownProof(p), ok)
				}
				root := impl.RootOf(changed)
				top, _ := impl.TopFrom(impl.LeafOf(other), i, n, p.Path)
				if root != impl.Hash([]int{231, n, top}) {
					t.Errorf("%s does not lead to the root of %s", shown(other), shownList(changed))
				}
				checkShown(t, root, n, other, p, false)
				checkShown(t, root, n, e, p, false)
			}
		}
	}
}

// The other entries of a list in which one is not valid, or is at the wrong
// place, are shown: a proof is about one entry only.
func TestEntriesBesideInvalidOnesAreShown(t *testing.T) {
	a, b, m := entryOf("a", 1, 7), entryOf("b", 3, 9, "x", "y"), entryOf("m", 2, 12345)
	for _, list := range [][]impl.Entry{{a, {}}, {{}, a}, {b, a}, {m, b, a}, {entryOf("b", 9, 9), a, m}, {entryOf("z", 1, -1), m, b, a}, {a, entryOf("B", 1, 1), m, b, entryOf("c", 3, 9)}} {
		levels, root := levelsByRule(leavesByRule(list)), impl.RootOf(list)
		for _, e := range list {
			checkProve(t, list, levels, e.Label)
			p, _ := impl.ProveEntry(list, e.Label)
			checkShown(t, root, len(list), e, p, isEntryByRule(e))
		}
	}
}

// By the document's Hash two valid entries may have the same leaf, and a proof
// of one of them then shows the other one.
func TestValidEntriesWithTheSameLeafAreBothShown(t *testing.T) {
	found := 0
	for n := 1; n <= maxEntries; n++ {
		list := variedEntries(zoneLabels()[:n], n)
		for i, e := range list {
			list := replaced(list, i, impl.ValueEntry(e.Label, 7+n))
			p, ok := impl.ProveEntry(list, e.Label)
			for _, other := range []impl.Entry{list[i], impl.ZoneEntry(e.Label, 7+n-1000003+modulus)} {
				if !ok || !impl.IsEntry(other) || leafByRule(other) != leafByRule(list[i]) {
					t.Fatalf("%s is not valid, or has not the leaf of %s", shown(other), shown(list[i]))
				}
				checkShown(t, impl.RootOf(list), n, other, p, true)
				found++
			}
		}
	}
	if found != 2*maxEntries*(maxEntries+1)/2 {
		t.Errorf("%d entries are shown", found)
	}
}

// Numbers that are the same modulo Modulus are the same for the document's Hash,
// but a root is compared as it is.
func TestPathsThatAreTheSameForHash(t *testing.T) {
	for _, c := range shownCases(provedContents()) {
		for k, beside := range c.proof.Path {
			for _, add := range []int{modulus, -modulus, 1000 * modulus, -1000 * modulus} {
				path := slices.Clone(c.proof.Path)
				path[k] = beside + add
				checkShown(t, c.root, len(c.list), c.entry, proofOf(c.i, path...), true)
				checkShown(t, c.root+add, len(c.list), c.entry, proofOf(c.i, path...), false)
			}
		}
	}
}

// forgedElement returns what has to be at k of the path, so that the leaf leads
// to the top: a top is linear in each element modulo Modulus.
func forgedElement(top int, leaf int, i int, n int, path []int, k int) int {
	topWith := func(v int) int {
		changed := slices.Clone(path)
		changed[k] = v
		got, _ := topFromByRule(leaf, i, n, changed)
		return got
	}
	q := big.NewInt(modulus)
	slope := big.NewInt(int64(topWith(1) - topWith(0)))
	slope.ModInverse(slope.Mod(slope, q), q)
	v := slope.Mul(slope, big.NewInt(int64(top-topWith(0))))
	return int(v.Mod(v, q).Int64())
}

// The document's Hash is not secure: CheckEntry believes a path that was
// computed for another entry, as its definition says.
func TestForgedPaths(t *testing.T) {
	for _, c := range shownCases(provedContents()) {
		top, other := topByRule(c.leaves), entryOf("forged", 1, 7)
		for k := range c.proof.Path {
			path := slices.Clone(c.proof.Path)
			path[k] = forgedElement(top, leafByRule(other), c.i, len(c.list), path, k)
			checkShown(t, c.root, len(c.list), other, proofOf(c.i, path...), true)
			checkShown(t, c.root, len(c.list), c.entry, proofOf(c.i, path...), false)
			checkShown(t, c.root, len(c.list), entryOf("forged", 4, 7), proofOf(c.i, path...), false)
		}
	}
}

func TestProveEntry(t *testing.T) {
	ann, bob, mail, shop := entryOf("ann", 1, 7), entryOf("bob", 3, 9, "x", "y"), entryOf("mail", 1, 3), entryOf("shop", 2, 12345)
	four := []impl.Entry{ann, bob, mail, shop}
	for _, c := range []struct {
		list  []impl.Entry
		label string
		want  impl.Proof
		ok    bool
	}{
		{[]impl.Entry{ann}, "ann", proofOf(0), true}, {[]impl.Entry{ann, bob}, "ann", proofOf(0, 516354259), true}, {[]impl.Entry{ann, bob}, "bob", proofOf(1, 132890426), true},
		{[]impl.Entry{ann, bob, shop}, "ann", proofOf(0, 516354259, 831960378), true}, {[]impl.Entry{ann, bob, shop}, "bob", proofOf(1, 132890426, 831960378), true}, {[]impl.Entry{ann, bob, shop}, "shop", proofOf(2, 951081172), true},
		{four, "ann", proofOf(0, 516354259, 1011329055), true}, {four, "bob", proofOf(1, 132890426, 1011329055), true}, {four, "mail", proofOf(2, 831960378, 951081172), true}, {four, "shop", proofOf(3, 881374023, 951081172), true},
		// There is no such entry.
		{four, "zoo", proofOf(0), false}, {four, "an", proofOf(0), false}, {four, "annn", proofOf(0), false}, {four, "a", proofOf(0), false}, {four, "Ann", proofOf(0), false}, {four, "sh0p", proofOf(0), false}, {four, "sh-op", proofOf(0), false}, {four, "x", proofOf(0), false}, {four, "x/y", proofOf(0), false}, {four, "7", proofOf(0), false},
		{four, "", proofOf(0), false}, {four, "-", proofOf(0), false}, {four, "ann\x00", proofOf(0), false}, {four, " ann", proofOf(0), false}, {four, "\xff", proofOf(0), false}, {nil, "ann", proofOf(0), false}, {nil, "", proofOf(0), false}, {[]impl.Entry{}, "ann", proofOf(0), false}, {[]impl.Entry{}, "", proofOf(0), false}, {[]impl.Entry{bob}, "ann", proofOf(0), false},
		// The list need not be valid contents: the first one with the label counts.
		{[]impl.Entry{bob, ann}, "ann", proofOf(1, 516354259), true}, {[]impl.Entry{bob, ann}, "bob", proofOf(0, 132890426), true}, {[]impl.Entry{ann, ann}, "ann", proofOf(0, 132890426), true}, {[]impl.Entry{shop, ann, ann}, "ann", proofOf(1, 831960378, 132890426), true}, {[]impl.Entry{{}}, "", proofOf(0), true}, {[]impl.Entry{ann, {}}, "", proofOf(1, 132890426), true}, {[]impl.Entry{ann, {}}, "ann", proofOf(0, 693803885), true},
		{[]impl.Entry{ann, bob, entryOf("ann", 2, 7), shop}, "ann", proofOf(0, 516354259, nodeByRule(1558994580, 831960378)), true}, {[]impl.Entry{entryOf("A", 9, -5), ann}, "A", proofOf(0, 132890426), true}, {[]impl.Entry{entryOf("A", 9, -5), ann}, "a", proofOf(0), false},
	} {
		if got, ok := impl.ProveEntry(c.list, c.label); !equalProofsByRule(got, c.want) || ok != c.ok {
			t.Errorf("ProveEntry(%s, %q) is %s, %v, want %s, %v", shownList(c.list), c.label, shownProof(got), ok, shownProof(c.want), c.ok)
		}
	}
}

func TestProofsOfLabelsThatAreNotThere(t *testing.T) {
	labels := slices.Concat(zoneLabels(), labelsAndOthers(), entryLabels, []string{"new"})
	for _, list := range append(provedContents(), nil, []impl.Entry{}) {
		for _, label := range labels {
			p, ok := impl.ProveEntry(list, label)
			if there := slices.Contains(labelsByRule(list), label); ok != there {
				t.Errorf("ProveEntry(%s, %.40q) is %v", shownList(list), label, ok)
			}
			if !ok && (p.At != 0 || len(p.Path) != 0) {
				t.Errorf("ProveEntry(%s, %.40q) is %s, false", shownList(list), label, shownProof(p))
			}
		}
	}
}

// Lists of any order and length, valid contents or not, go by FindEntry and
// PathFor.
func TestProofsInAnyList(t *testing.T) {
	found := 0
	for _, list := range slices.Concat([][]impl.Entry{nil, {}}, smallLists(), brokenContents(), anyLists()) {
		leaves := impl.LeavesOf(list)
		levels := levelsByRule(leaves)
		labels := append(labelsByRule(list), "", "a", "A", "ao", "b", "new", "zzzzzzzz")
		for _, label := range labels[max(0, len(labels)-20):] {
			checkProve(t, list, levels, label)
			got, ok := impl.ProveEntry(list, label)
			if i := impl.FindEntry(list, label); ok && (got.At != i || !slices.Equal(got.Path, impl.PathFor(leaves, i))) {
				t.Errorf("ProveEntry(%s, %.40q) is %s, FindEntry is %d", shownList(list), label, shownProof(got), i)
			}
			if ok {
				found++
			}
		}
	}
	if found < 10000 {
		t.Errorf("%d labels were found", found)
	}
}

// More entries than MaxEntries have a root and proofs, which CheckEntry and
// CheckAll refuse.
func TestProofsOfTooManyEntries(t *testing.T) {
	labels := zoneLabels()
	for n := 10; n <= len(labels); n++ {
		list := variedEntries(labels[:n], n)
		levels, root := levelsByRule(leavesByRule(list)), impl.RootOf(list)
		for i, e := range list {
			checkProve(t, list, levels, e.Label)
			p, ok := impl.ProveEntry(list, e.Label)
			if !ok || p.At != i {
				t.Errorf("ProveEntry of %q in %d entries is %s, %v", e.Label, n, shownProof(p), ok)
			}
			checkShown(t, root, n, e, p, n <= 12)
			checkShown(t, root, 12, e, p, n == 12)
		}
		if got := impl.CheckAll(root, list); got != (n <= 12) {
			t.Errorf("CheckAll of %d entries is %v", n, got)
		}
	}
}

func TestCheckEntry(t *testing.T) {
	ann, bob, mail, shop := entryOf("ann", 1, 7), entryOf("bob", 3, 9, "x", "y"), entryOf("mail", 1, 3), entryOf("shop", 2, 12345)
	const one, two, three, four = 1031714379, 1850905128, 1951092841, 2131461521
	for _, c := range []struct {
		root, count int
		e           impl.Entry
		p           impl.Proof
		want        bool
	}{
		{one, 1, ann, proofOf(0), true}, {one, 1, ann, impl.Proof{Path: []int{}}, true}, {two, 2, ann, proofOf(0, 516354259), true}, {two, 2, bob, proofOf(1, 132890426), true}, {three, 3, shop, proofOf(2, 951081172), true}, {three, 3, bob, proofOf(1, 132890426, 831960378), true}, {four, 4, mail, proofOf(2, 831960378, 951081172), true}, {four, 4, shop, proofOf(3, 881374023, 951081172), true},
		// Another root, count, entry, index or path.
		{two, 1, ann, proofOf(0), false}, {one + 1, 1, ann, proofOf(0), false}, {one + modulus, 1, ann, proofOf(0), false}, {one - modulus, 1, ann, proofOf(0), false}, {132890426, 1, ann, proofOf(0), false}, {0, 0, ann, proofOf(0), false}, {0, 0, impl.Entry{}, impl.Proof{}, false},
		{one, 2, ann, proofOf(0), false}, {two, 1, ann, proofOf(0, 516354259), false}, {two, 3, ann, proofOf(0, 516354259), false}, {three, 2, shop, proofOf(2, 951081172), false}, {three, 4, shop, proofOf(2, 951081172), false},
		{one, 1, entryOf("ann", 1, 8), proofOf(0), false}, {one, 1, entryOf("bob", 1, 7), proofOf(0), false}, {one, 1, entryOf("ann", 2, 7), proofOf(0), false}, {one, 1, entryOf("ann", 3, 7, "x"), proofOf(0), false}, {two, 2, entryOf("bob", 3, 9, "y", "x"), proofOf(1, 132890426), false}, {two, 2, entryOf("bob", 3, 9, "x"), proofOf(1, 132890426), false}, {two, 2, bob, proofOf(0, 516354259), false}, {two, 2, ann, proofOf(1, 132890426), false},
		{one, 1, ann, proofOf(1), false}, {one, 1, ann, proofOf(-1), false}, {two, 2, ann, proofOf(1, 516354259), false}, {two, 2, bob, proofOf(0, 132890426), false}, {three, 3, shop, proofOf(3, 951081172), false}, {three, 3, shop, proofOf(1, 951081172), false}, {one, 1, ann, proofOf(math.MinInt), false}, {one, 1, ann, proofOf(math.MaxInt), false},
		{two, 2, ann, proofOf(0, 516354260), false}, {two, 2, ann, proofOf(0), false}, {one, 1, ann, proofOf(0, 0), false}, {one, 1, ann, proofOf(0, one), false}, {two, 2, ann, proofOf(0, 516354259, 0), false}, {two, 2, ann, proofOf(0, 516354259, 516354259), false}, {three, 3, shop, proofOf(2, 831960378, 951081172), false}, {three, 3, shop, proofOf(2, 951081172, 0), false}, {three, 3, bob, proofOf(1, 831960378, 132890426), false}, {three, 3, bob, proofOf(1, 132890426), false},
		// An entry that is not valid, though its leaf is the same.
		{one, 1, entryOf("ann", 1, 7+modulus), proofOf(0), false}, {one, 1, entryOf("ann", 1, 7-modulus), proofOf(0), false}, {one, 1, entryOf("ann", 1+modulus, 7), proofOf(0), false}, {two, 2, entryOf("bob", 3, 9-modulus, "x", "y"), proofOf(1, 132890426), false}, {rootOfTop(1, 693803885), 1, impl.Entry{}, proofOf(0), false},
		// No entries, or too many.
		{908824225, 0, ann, proofOf(0), false}, {rootOfTop(0, 132890426), 0, ann, proofOf(0), false}, {rootOfTop(0, 132890426), 0, ann, proofOf(-1), false}, {rootOfTop(0, 0), 0, ann, proofOf(0), false}, {rootOfTop(-1, 132890426), -1, ann, proofOf(0), false}, {rootOfTop(-1, 0), -1, ann, proofOf(-2), false}, {rootOfTop(math.MinInt, 0), math.MinInt, ann, proofOf(0), false}, {rootOfTop(13, 0), 13, ann, proofOf(0), false}, {rootOfTop(math.MaxInt, 0), math.MaxInt, ann, proofOf(0), false},
		{rootOfTop(1+modulus, 132890426), 1 + modulus, ann, proofOf(0), false}, {one, 1 + modulus, ann, proofOf(0), false}, {one, 1<<32 + 1, ann, proofOf(0), false},
	} {
		checkShown(t, c.root, c.count, c.e, c.p, c.want)
		checkByRule(t, c.root, c.count, c.e, c.p)
	}
}

// Every count, index and length of a path, with numbers of all sizes.
func TestCheckEntryOfAllArguments(t *testing.T) {
	entries := []impl.Entry{entryOf("ann", 1, 7), entryOf("abcdefgh", 3, modulus-1, "a", "b", "c", "d"), entryOf("ann", 2, modulus), entryOf("A", 1, 7), {}}
	long, found := dataInts(40), 0
	for _, count := range edgeCounts {
		for _, at := range edgeIndices {
			for _, e := range entries {
				for _, path := range [][]int{nil, {}, long[:1], long[1:2], long[:2], long[5:8], long[:4], long[7:12], long} {
					p := proofOf(at, path...)
					for _, root := range []int{0, 11, rootOfTop(count, 0), rootOfTop(count, leafByRule(e)), math.MinInt, math.MaxInt} {
						checkByRule(t, root, count, e, p)
					}
					if top, ok := topFromByRule(leafByRule(e), at, count, path); ok {
						root := rootOfTop(count, top)
						checkShown(t, root, count, e, p, isEntryByRule(e))
						checkShown(t, root-modulus, count, e, p, false)
						found++
					}
				}
			}
		}
	}
	// One length for each leaf of 1 to 12. Two of the paths have no element and
	// two have one, so six leaves count twice: the only one, both of two, and the
	// last of three, five and nine.
	if want := len(entries) * (maxEntries*(maxEntries+1)/2 + 6); found != want {
		t.Errorf("%d proofs have the required length, want %d", found, want)
	}
}

// Very large and very small elements of a path, at each of its places.
func TestCheckEntryWithEdgeElements(t *testing.T) {
	for _, c := range shownCases([][]impl.Entry{variedEntries(zoneLabels()[:2], 1), variedEntries(zoneLabels()[:7], 2), variedEntries(zoneLabels()[:12], 3)}) {
		for k := range c.proof.Path {
			for _, v := range slices.Concat(edgeKeys, edgeValues) {
				path := slices.Clone(c.proof.Path)
				path[k] = v
				p := proofOf(c.i, path...)
				checkByRule(t, c.root, len(c.list), c.entry, p)
				top, _ := topFromByRule(c.leaves[c.i], c.i, len(c.list), path)
				checkShown(t, rootOfTop(len(c.list), top), len(c.list), c.entry, p, true)
			}
		}
	}
}

func checkWhole(t *testing.T, root int, list []impl.Entry, want bool) {
	t.Helper()
	if got := impl.CheckAll(root, list); got != want {
		t.Errorf("CheckAll(%d, %s) is %v", root, shownList(list), got)
	}
}

func TestCheckAll(t *testing.T) {
	ann, bob, mail, shop := entryOf("ann", 1, 7), entryOf("bob", 3, 9, "x", "y"), entryOf("mail", 1, 3), entryOf("shop", 2, 12345)
	for _, c := range []struct {
		root int
		list []impl.Entry
		want bool
	}{
		{908824225, nil, true}, {908824225, []impl.Entry{}, true}, {1031714379, []impl.Entry{ann}, true}, {1850905128, []impl.Entry{ann, bob}, true}, {1951092841, []impl.Entry{ann, bob, shop}, true}, {2131461521, []impl.Entry{ann, bob, mail, shop}, true},
		// Another root.
		{0, nil, false}, {11000275, nil, false}, {908824226, nil, false}, {908824225 + modulus, nil, false}, {908824225 - modulus, nil, false}, {908824225, []impl.Entry{ann}, false}, {1031714379, nil, false}, {132890426, []impl.Entry{ann}, false}, {1031714380, []impl.Entry{ann}, false}, {1031714378, []impl.Entry{ann}, false}, {1031714379 - modulus, []impl.Entry{ann}, false}, {-1031714379, []impl.Entry{ann}, false}, {math.MinInt, []impl.Entry{ann}, false}, {math.MaxInt, []impl.Entry{ann}, false},
		{1951092841, []impl.Entry{ann, bob}, false}, {1850905128, []impl.Entry{ann, bob, shop}, false}, {1951092841, []impl.Entry{ann, bob, mail, shop}, false}, {1951092841, []impl.Entry{ann, bob, mail}, false}, {1951092841, []impl.Entry{ann, bob, entryOf("shop", 2, 12346)}, false},
		// A list that is no valid contents, with its own root.
		{1033406239, []impl.Entry{bob, ann}, false}, {1592627838, []impl.Entry{{}}, false}, {1734879027, slices.Repeat([]impl.Entry{ann}, 13), false}, {1850905128, []impl.Entry{bob, ann}, false},
		{1031714379, []impl.Entry{entryOf("ann", 1, 7+modulus)}, false}, {1031714379, []impl.Entry{entryOf("ann", 1-modulus, 7)}, false}, {1850905128, []impl.Entry{ann, entryOf("bob", 3, 9-modulus, "x", "y")}, false},
		// By the document's Hash another list may have the same root: the second and
		// the third of four can be exchanged, but are then not in order.
		{2131461521, []impl.Entry{ann, mail, bob, shop}, false},
	} {
		checkWhole(t, c.root, c.list, c.want)
	}
	if impl.RootOf([]impl.Entry{ann, mail, bob, shop}) != 2131461521 {
		t.Error("the second and the third of four entries cannot be exchanged")
	}
}

func TestCheckAllOfAllContents(t *testing.T) {
	valid, broken := 0, 0
	for _, list := range contentArguments() {
		root, ok := impl.RootOf(list), areEntriesByRule(list)
		checkWhole(t, root, list, ok)
		for _, other := range otherRoots(root, len(list), 7) {
			checkWhole(t, other, list, false)
		}
		if ok {
			valid++
		} else {
			broken++
		}
	}
	if valid < 150 || broken < 1000 {
		t.Errorf("%d lists are valid contents, %d are not", valid, broken)
	}
}

// Contents with one entry more, less or changed do not go with the root.
func TestCheckAllOfOtherContents(t *testing.T) {
	for _, c := range shownCases(provedContents()) {
		others := [][]impl.Entry{slices.Delete(slices.Clone(c.list), c.i, c.i+1), with(c.list, c.i, c.entry)}
		for k, other := range slices.Concat(changedEntries(c.entry), kindsOf(c.entry.Label)) {
			if k%3 == c.i%3 && !isSame(leafByRule(other), c.leaves[c.i]) {
				others = append(others, replaced(c.list, c.i, other))
			}
		}
		for _, other := range sameLeaf(c.entry) {
			others = append(others, replaced(c.list, c.i, other))
		}
		for j := range c.i {
			others = append(others, swapped(c.list, j, c.i))
			checkWhole(t, impl.RootOf(swapped(c.list, j, c.i)), swapped(c.list, j, c.i), false)
		}
		for _, other := range others {
			checkWhole(t, c.root, other, false)
		}
		checkWhole(t, c.root, c.list, true)
	}
}

func TestSizeOfProof(t *testing.T) {
	for _, c := range []struct {
		p    impl.Proof
		want int
	}{
		{impl.Proof{}, 1}, {impl.Proof{Path: []int{}}, 1}, {impl.Proof{Path: make([]int, 0, 9)}, 1}, {proofOf(5), 1}, {proofOf(-1), 1}, {proofOf(math.MaxInt), 1}, {proofOf(0, 7), 2}, {proofOf(0, 0), 2}, {proofOf(3, 0, 0), 3}, {proofOf(math.MinInt, -1, math.MinInt, math.MaxInt), 4},
		{impl.Proof{At: 2, Path: make([]int, 3, 30)}, 4}, {impl.Proof{Path: make([]int, 100001)}, 100002},
	} {
		if got := impl.SizeOfProof(c.p); got != c.want {
			t.Errorf("SizeOfProof(%s) is %d, want %d", shownProof(c.p), got, c.want)
		}
	}
	for n := range 200 {
		if got := impl.SizeOfProof(proofOf(n-100, dataInts(n)...)); got != n+1 {
			t.Errorf("SizeOfProof with a path of %d elements is %d", n, got)
		}
	}
}

// The size of a proof is at most five: twelve entries have four levels.
func TestSizesOfProofs(t *testing.T) {
	for n, want := range [][]int{
		nil, {1}, {2, 2}, {3, 3, 2}, {3, 3, 3, 3}, {4, 4, 4, 4, 2}, {4, 4, 4, 4, 3, 3}, {4, 4, 4, 4, 4, 4, 3}, {4, 4, 4, 4, 4, 4, 4, 4},
		{5, 5, 5, 5, 5, 5, 5, 5, 2}, {5, 5, 5, 5, 5, 5, 5, 5, 3, 3}, {5, 5, 5, 5, 5, 5, 5, 5, 4, 4, 3}, {5, 5, 5, 5, 5, 5, 5, 5, 4, 4, 4, 4},
	} {
		list := variedEntries(zoneLabels()[:n], n)
		for i, e := range list {
			p, _ := impl.ProveEntry(list, e.Label)
			if got := impl.SizeOfProof(p); got != want[i] {
				t.Errorf("the proof of entry %d of %d has the size %d, want %d", i, n, got, want[i])
			}
		}
	}
}

func TestEqualProofs(t *testing.T) {
	for _, c := range []struct {
		a, b impl.Proof
		want bool
	}{
		{impl.Proof{}, impl.Proof{}, true}, {impl.Proof{}, impl.Proof{Path: []int{}}, true}, {proofOf(3), impl.Proof{At: 3, Path: make([]int, 0, 7)}, true}, {proofOf(3, 1, 2), proofOf(3, 1, 2), true}, {proofOf(-3, math.MinInt, 0, math.MaxInt), proofOf(-3, math.MinInt, 0, math.MaxInt), true}, {proofOf(math.MinInt), proofOf(math.MinInt), true}, {proofOf(1, 5), impl.Proof{At: 1, Path: append(make([]int, 0, 7), 5)}, true},
		// Another index.
		{proofOf(3, 1, 2), proofOf(2, 1, 2), false}, {proofOf(3), proofOf(-3), false}, {proofOf(0), proofOf(1), false}, {proofOf(math.MinInt), proofOf(math.MaxInt), false}, {proofOf(3), proofOf(3 + 1<<32), false}, {proofOf(3, 1), proofOf(3+modulus, 1), false},
		// Another path.
		{proofOf(3, 1, 2), proofOf(3), false}, {proofOf(3, 1, 2), proofOf(3, 1), false}, {proofOf(3, 1, 2), proofOf(3, 2), false}, {proofOf(3, 1, 2), proofOf(3, 1, 2, 0), false}, {proofOf(3, 1, 2), proofOf(3, 1, 2, 2), false}, {proofOf(3, 1, 2), proofOf(3, 0, 1, 2), false}, {proofOf(3), proofOf(3, 0), false}, {impl.Proof{}, proofOf(0, 0), false},
		{proofOf(3, 1, 2), proofOf(3, 2, 1), false}, {proofOf(3, 1, 2), proofOf(3, 1, 3), false}, {proofOf(3, 1, 2), proofOf(3, 0, 2), false}, {proofOf(3, 1, 2), proofOf(3, 1+modulus, 2), false}, {proofOf(3, 1, 2), proofOf(3, 1, 2+1<<32), false}, {proofOf(3, 1, 2), proofOf(3, 1, -2), false}, {proofOf(1, 2), proofOf(2, 1), false}, {proofOf(0, math.MinInt), proofOf(0, math.MaxInt), false},
	} {
		if impl.EqualProofs(c.a, c.b) != c.want || impl.EqualProofs(c.b, c.a) != c.want {
			t.Errorf("%s and %s: EqualProofs is %v, %v", shownProof(c.a), shownProof(c.b), impl.EqualProofs(c.a, c.b), impl.EqualProofs(c.b, c.a))
		}
	}
}

func TestEqualProofsOfAllPairs(t *testing.T) {
	all := []impl.Proof{{}, {At: 1}}
	for _, at := range []int{0, 1, -1} {
		for _, path := range intLists(3, []int{0, 1, 2, -1}) {
			all = append(all, proofOf(at, path...))
		}
	}
	for _, a := range all {
		for _, b := range all {
			if got := impl.EqualProofs(a, b); got != equalProofsByRule(a, b) {
				t.Errorf("EqualProofs(%s, %s) is %v", shownProof(a), shownProof(b), got)
			}
		}
	}
}

// Each element of a path in turn is changed, and the path is made longer and
// shorter at each place.
func TestEqualProofsWithOneChange(t *testing.T) {
	for n := range 30 {
		p := proofOf(n-5, dataInts(n)...)
		others := []impl.Proof{proofOf(n-4, p.Path...), proofOf(5-n+1<<40, p.Path...), proofOf(p.At, append(slices.Clone(p.Path), 0)...)}
		for k, v := range p.Path {
			for _, other := range []int{v + 1, v - 1, ^v, v ^ 1<<31, v ^ 1<<62} {
				path := slices.Clone(p.Path)
				path[k] = other
				others = append(others, proofOf(p.At, path...))
			}
			others = append(others, proofOf(p.At, slices.Delete(slices.Clone(p.Path), k, k+1)...), proofOf(p.At, p.Path[:k]...))
		}
		if !impl.EqualProofs(p, proofOf(p.At, slices.Clone(p.Path)...)) {
			t.Errorf("%s is not equal to itself", shownProof(p))
		}
		for _, other := range others {
			if impl.EqualProofs(p, other) || impl.EqualProofs(other, p) {
				t.Errorf("%s and %s are equal", shownProof(p), shownProof(other))
			}
		}
	}
}

// The proofs of different entries of a list are not equal.
func TestProofsOfDifferentEntriesDiffer(t *testing.T) {
	for _, list := range provedContents() {
		for i, e := range list {
			for j, other := range list {
				p, _ := impl.ProveEntry(list, e.Label)
				q, _ := impl.ProveEntry(list, other.Label)
				if impl.EqualProofs(p, q) != (i == j) {
					t.Errorf("the proofs of the entries %d and %d of %s: %v", i, j, shownList(list), impl.EqualProofs(p, q))
				}
			}
		}
	}
}

func TestProofFunctionsLeaveTheirArguments(t *testing.T) {
	for n, start := range argumentLists() {
		list, whole := spareEntries(start)
		before, root := wholeEntries(whole), impl.RootOf(start)
		impl.CheckAll(root, list)
		impl.CheckAll(n, list)
		for i, e := range start[:min(len(start), 6)] {
			proved, _ := impl.ProveEntry(list, e.Label)
			overwriteInts(proved.Path)
			path, wholePath := spareInts(impl.PathFor(impl.LeavesOf(start), i))
			pathBefore := slices.Clone(wholePath)
			p, q := proofOf(i, path...), impl.Proof{At: i, Path: wholePath}
			impl.CheckEntry(root, len(start), list[i], p)
			impl.CheckEntry(root, len(start), list[i], q)
			impl.SizeOfProof(p)
			impl.EqualProofs(p, q)
			impl.EqualProofs(p, p)
			if !slices.Equal(wholePath, pathBefore) {
				t.Errorf("a function wrote into %s or its spare capacity", shownProof(p))
			}
		}
		impl.ProveEntry(list, "new")
		if !sameByRule(list, start) || !sameByRule(wholeEntries(whole), before) {
			t.Errorf("a function wrote into %s or its spare capacity, or shares memory with it", shownList(start))
		}
	}
}

// What is done to an argument or to another result does not reach a result.
func TestProofsAreTheirOwn(t *testing.T) {
	for _, start := range argumentLists() {
		levels := levelsByRule(leavesByRule(start))
		for _, e := range start[:min(len(start), 6)] {
			list, whole := spareEntries(start)
			p, _ := impl.ProveEntry(list, e.Label)
			again, _ := impl.ProveEntry(list, e.Label)
			overwriteInts(again.Path)
			for _, other := range start[:min(len(start), 4)] {
				again, _ = impl.ProveEntry(list, other.Label)
				overwriteInts(again.Path)
			}
			overwriteEntries(whole)
			if want, _ := proofByRule(start, levels, e.Label); !equalProofsByRule(p, want) {
				t.Errorf("ProveEntry(%s, %.40q) changed afterwards to %s", shownList(start), e.Label, shownProof(p))
			}
		}
	}
}

// Every function returns for arguments of any size.
func TestLargeProofs(t *testing.T) {
	long, path := strings.Repeat("abc\xff", 20000), dataInts(100001)
	p := proofOf(0, path...)
	many := slices.Repeat([]impl.Entry{entryOf("a", 1, 7), entryOf("b", 3, 7, "x", "", "\xff"), {}}, 7000)
	many = append(many, entryOf(long, 1, 7), entryOf("z", 3, 7, slices.Repeat([]string{"a", long[:300]}, 500)...))
	levels, root := levelsByRule(leavesByRule(many)), impl.RootOf(many)
	for _, label := range []string{"a", "b", "", "z", "new", long, long + "a"} {
		checkProve(t, many, levels, label)
	}
	for _, e := range []impl.Entry{many[0], many[1], many[len(many)-2], many[len(many)-1]} {
		proved, _ := impl.ProveEntry(many, e.Label)
		for _, count := range []int{len(many), 1, 12, -len(many), math.MinInt, math.MaxInt} {
			checkShown(t, root, count, e, proved, false)
			checkShown(t, root, count, e, p, false)
		}
	}
	checkWhole(t, root, many, false)
	checkWhole(t, impl.RootOf(many[len(many)-1:]), many[len(many)-1:], false)
	if !impl.EqualProofs(p, proofOf(0, path...)) || impl.EqualProofs(p, proofOf(0, path[1:]...)) || impl.SizeOfProof(p) != 100002 {
		t.Errorf("a proof of the size %d", impl.SizeOfProof(p))
	}
}
