package tests

import (
	"fmt"
	"math"
	"slices"
	"strings"
	"testing"

	"loop.example/g00588/impl"
)

// emptyRoot is the root of the empty list.
const emptyRoot = 908824225

// gapOf returns a gap that may be one of contents or not.
func gapOf(at int, before impl.Entry, left impl.Proof, after impl.Entry, right impl.Proof) impl.Gap {
	return impl.Gap{At: at, Before: before, After: after, Left: left, Right: right}
}

// shownGap is a gap in a message of a test, cut off where it is long.
func shownGap(g impl.Gap) string {
	return fmt.Sprintf("{%d, %s %s, %s %s}", g.At, shown(g.Before), shownProof(g.Left), shown(g.After), shownProof(g.Right))
}

// rankByRule sorts the labels and searches among them.
func rankByRule(list []impl.Entry, label string) int {
	at, _ := slices.BinarySearch(slices.Sorted(slices.Values(labelsByRule(list))), label)
	return at
}

// gapAt needs the levels of the tree of the list, so that they are computed
// once for all gaps.
func gapAt(list []impl.Entry, levels [][]int, at int) impl.Gap {
	g := impl.Gap{At: at}
	if at > 0 {
		g.Before, g.Left = list[at-1], proofOf(at-1, pathInLevels(levels, at-1)...)
	}
	if at < len(list) {
		g.After, g.Right = list[at], proofOf(at, pathInLevels(levels, at)...)
	}
	return g
}

func gapByRule(list []impl.Entry, label string) (impl.Gap, bool) {
	if !areEntriesByRule(list) || !labelForm.MatchString(label) || slices.Contains(labelsByRule(list), label) {
		return impl.Gap{}, false
	}
	return gapAt(list, levelsByRule(leavesByRule(list)), rankByRule(list, label)), true
}

func isNothing(e impl.Entry, p impl.Proof) bool {
	return equalByRule(e, impl.Entry{}) && equalProofsByRule(p, impl.Proof{})
}

// absentByRule follows the document's words.
func absentByRule(root int, count int, label string, g impl.Gap) bool {
	if !labelForm.MatchString(label) || g.At < 0 || g.At > count {
		return false
	}
	if g.At == 0 && !isNothing(g.Before, g.Left) || g.At == count && !isNothing(g.After, g.Right) {
		return false
	}
	if g.At != 0 && (g.Left.At != g.At-1 || g.Before.Label >= label || !shownByRule(root, count, g.Before, g.Left)) {
		return false
	}
	if g.At != count && (g.Right.At != g.At || g.After.Label <= label || !shownByRule(root, count, g.After, g.Right)) {
		return false
	}
	return count != 0 || root == rootByRule(nil)
}

func equalGapsByRule(a impl.Gap, b impl.Gap) bool {
	return a.At == b.At && equalByRule(a.Before, b.Before) && equalByRule(a.After, b.After) && equalProofsByRule(a.Left, b.Left) && equalProofsByRule(a.Right, b.Right)
}

// gapContents are valid contents of every number of entries, of all kinds and
// of one kind alone, with room for others before, between and behind them.
func gapContents() [][]impl.Entry {
	pools := [][]string{
		{"b", "b0", "c-d", "d", "dd", "ddd", "e", "m", "mmmmmmmm", "s", "sh0p", "x9"},
		{"00", "0a", "a", "a-a", "a0", "aa", "ao", "b-0", "b0o", "z", "zz", "zzz"},
		{"5", "55", "555", "5555", "55555", "555555", "5555555", "55555555", "6", "66", "667", "7"},
	}
	all := [][]impl.Entry{{}}
	for n := range maxEntries + 1 {
		for k, pool := range pools {
			first := (n + k) % (maxEntries + 1 - n)
			labels := pool[first : first+n]
			ofOneKind := []impl.Entry{}
			for _, label := range labels {
				ofOneKind = append(ofOneKind, kindsOf(label)[(n+2*k)%6])
			}
			all = append(all, variedEntries(labels, n+k), ofOneKind)
		}
	}
	return all
}

// labelsNear are labels just before and just behind a label, and others.
func labelsNear(label string) []string {
	start, last := label[:len(label)-1], label[len(label)-1]
	near := []string{start, label + "0", label + "-0", label + "z", label + strings.Repeat("-", max(0, 7-len(label))) + "0", "0" + label, "z" + label}
	for _, c := range []byte{last - 1, last + 1, '0', 'z', '9', 'a'} {
		near = append(near, start+string(c), start+string(c)+strings.Repeat("z", max(0, 8-len(label))))
	}
	return slices.DeleteFunc(near, func(s string) bool { return !labelForm.MatchString(s) })
}

// missingLabels are labels that are not in a list, by the number of entries
// before them; there are none where there is no room.
func missingLabels(list []impl.Entry) [][]string {
	there := labelsByRule(list)
	candidates := slices.Concat(zoneLabels(), goodLabels, []string{"0", "zzzzzzzz"})
	for _, label := range there {
		candidates = append(candidates, labelsNear(label)...)
	}
	slices.Sort(candidates)
	missing := make([][]string, len(list)+1)
	for _, s := range slices.Compact(candidates) {
		if at, found := slices.BinarySearch(there, s); !found {
			missing[at] = append(missing[at], s)
		}
	}
	return missing
}

// absentCase is a label that is not in contents with all that shows it.
type absentCase struct {
	list  []impl.Entry
	root  int
	label string
	gap   impl.Gap
}

// absentCases are the first, the last and one more of the labels of each gap of
// each of the lists.
func absentCases(lists [][]impl.Entry) []absentCase {
	all := []absentCase{}
	for _, list := range lists {
		root, levels := rootByRule(list), levelsByRule(leavesByRule(list))
		for at, labels := range missingLabels(list) {
			if len(labels) == 0 {
				continue
			}
			chosen := []string{labels[0], labels[len(labels)/2], labels[len(labels)-1]}
			for _, label := range slices.Compact(chosen) {
				all = append(all, absentCase{list, root, label, gapAt(list, levels, at)})
			}
		}
	}
	return all
}

// fewAbsentCases are one label of each gap of gapContents.
func fewAbsentCases() []absentCase {
	all := absentCases(gapContents())
	return slices.CompactFunc(all, func(a absentCase, b absentCase) bool { return a.root == b.root && a.gap.At == b.gap.At })
}

func checkGap(t *testing.T, list []impl.Entry, label string) {
	t.Helper()
	want, wantOk := gapByRule(list, label)
	got, ok := impl.ProveAbsence(list, label)
	if !equalGapsByRule(got, want) || ok != wantOk {
		t.Errorf("ProveAbsence(%s, %.40q) is %s, %v, want %s, %v", shownList(list), label, shownGap(got), ok, shownGap(want), wantOk)
	}
}

func checkAbsent(t *testing.T, root int, count int, label string, g impl.Gap, want bool) {
	t.Helper()
	if got := impl.CheckAbsence(root, count, label, g); got != want {
		t.Errorf("CheckAbsence(%d, %d, %.40q, %s) is %v", root, count, label, shownGap(g), got)
	}
}

func checkAbsentByRule(t *testing.T, root int, count int, label string, g impl.Gap) {
	t.Helper()
	checkAbsent(t, root, count, label, g, absentByRule(root, count, label, g))
}

// checkNoGap fails unless the result is that of a label without a gap.
func checkNoGap(t *testing.T, list []impl.Entry, label string) {
	t.Helper()
	if g, ok := impl.ProveAbsence(list, label); ok || g.At != 0 || !isNothing(g.Before, g.Left) || !isNothing(g.After, g.Right) {
		t.Errorf("ProveAbsence(%s, %.40q) is %s, %v", shownList(list), label, shownGap(g), ok)
	}
}

func checkRank(t *testing.T, list []impl.Entry, label string) {
	t.Helper()
	if got, want := impl.RankOf(list, label), rankByRule(list, label); got != want {
		t.Errorf("RankOf(%s, %.40q) is %d, want %d", shownList(list), label, got, want)
	}
}

// Every label that is not there has the gap that the document defines.
func TestEveryMissingLabelHasAGap(t *testing.T) {
	gaps, kinds := map[[2]int]int{}, map[int]int{}
	for _, c := range absentCases(slices.Concat(gapContents(), provedContents(), [][]impl.Entry{nil})) {
		g, ok := impl.ProveAbsence(c.list, c.label)
		if !ok || !equalGapsByRule(g, c.gap) || g.At != impl.RankOf(c.list, c.label) {
			t.Errorf("ProveAbsence(%s, %q) is %s, %v", shownList(c.list), c.label, shownGap(g), ok)
		}
		if left, ok := impl.ProveEntry(c.list, g.Before.Label); !equalProofsByRule(left, g.Left) || ok != (g.At > 0) {
			t.Errorf("%s is beside %q, but its proof is %s, %v", shownGap(g), c.label, shownProof(left), ok)
		}
		if right, ok := impl.ProveEntry(c.list, g.After.Label); !equalProofsByRule(right, g.Right) || ok != (g.At < len(c.list)) {
			t.Errorf("%s is beside %q, but its proof is %s, %v", shownGap(g), c.label, shownProof(right), ok)
		}
		checkAbsent(t, impl.RootOf(c.list), len(c.list), c.label, g, true)
		checkAbsent(t, c.root, len(c.list), strings.Clone(c.label), copiedGap(c.gap), true)
		gaps[[2]int{len(c.list), g.At}]++
		kinds[g.Before.Kind]++
		kinds[g.After.Kind]++
	}
	for n := range maxEntries + 1 {
		for at := range n + 1 {
			if gaps[[2]int{n, at}] < 6 {
				t.Errorf("there are %d labels behind %d of %d entries", gaps[[2]int{n, at}], at, n)
			}
		}
	}
	if min(kinds[1], kinds[2], kinds[3]) < 1000 {
		t.Errorf("the neighbours are of the kinds %v", kinds)
	}
}

// The least label of all has nothing before it, and the greatest nothing behind.
func TestGapsOfTheFirstAndTheLastLabel(t *testing.T) {
	for _, c := range fewAbsentCases() {
		n := len(c.list)
		for label, at := range map[string]int{"0": 0, "zzzzzzzz": n} {
			g, ok := impl.ProveAbsence(c.list, label)
			if !ok || g.At != at || impl.RankOf(c.list, label) != at {
				t.Errorf("ProveAbsence(%s, %q) is %s, %v", shownList(c.list), label, shownGap(g), ok)
			}
			checkAbsent(t, c.root, n, label, g, true)
			for i, e := range c.list {
				checkAbsent(t, c.root, n, e.Label, g, false)
				g.At = i + 1 - min(at, 1)
				checkAbsent(t, c.root, n, label, g, false)
				g.At = at
			}
		}
	}
}

// This is promise 12: no gap of contents is one of a label that is there.
func TestNoGapForALabelThatIsThere(t *testing.T) {
	for _, list := range slices.Concat(gapContents(), provedContents()) {
		root, n, levels := impl.RootOf(list), len(list), levelsByRule(leavesByRule(list))
		for _, e := range list {
			checkNoGap(t, list, e.Label)
			for at := range n + 1 {
				checkAbsent(t, root, n, e.Label, gapAt(list, levels, at), false)
			}
			checkAbsent(t, root, n, e.Label, impl.Gap{}, false)
			rest := without(list, e.Label)
			g, ok := impl.ProveAbsence(rest, e.Label)
			if !ok {
				t.Fatalf("%q is not in %s, but has no gap", e.Label, shownList(rest))
			}
			checkAbsent(t, impl.RootOf(rest), n-1, e.Label, g, true)
			checkAbsent(t, impl.RootOf(rest), n, e.Label, g, false)
			checkAbsent(t, root, n, e.Label, g, false)
			checkAbsent(t, root, n-1, e.Label, g, false)
		}
	}
}

// partsOfGaps are the entries of a list and their proofs, and zero ones.
func partsOfGaps(list []impl.Entry) ([]impl.Entry, []impl.Proof) {
	entries, proofs := append(slices.Clone(list), impl.Entry{}), []impl.Proof{{}}
	for i := range list {
		proofs = append(proofs, proofOf(i, pathByRule(leavesByRule(list), i)...))
	}
	return entries, proofs
}

// Whatever is put together from the entries of contents and their proofs: only
// the gap of a label that is not there shows that it is not there.
func TestGapsPutTogether(t *testing.T) {
	found := 0
	for _, list := range slices.DeleteFunc(gapContents(), func(list []impl.Entry) bool { return len(list) > 3 }) {
		root, n := rootByRule(list), len(list)
		entries, proofs := partsOfGaps(list)
		labels := labelsByRule(list)
		for _, missing := range missingLabels(list) {
			labels = append(labels, missing[0])
		}
		wants := map[string]impl.Gap{}
		for _, label := range labels[n:] {
			wants[label], _ = gapByRule(list, label)
		}
		visit := func(g impl.Gap) {
			for _, label := range labels {
				want, ok := wants[label]
				ok = ok && equalGapsByRule(g, want)
				checkAbsent(t, root, n, label, g, ok)
				if ok {
					found++
				}
			}
		}
		for at := -1; at <= n+1; at++ {
			for _, before := range entries {
				for _, left := range proofs {
					for _, after := range entries {
						for _, right := range proofs {
							visit(gapOf(at, before, left, after, right))
						}
					}
				}
			}
		}
	}
	// The proof of an only entry is the zero one, so that each of the two gaps
	// beside it is put together four times, and every other gap once.
	if want := 7*1 + 6*(2*4+3+4); found != want {
		t.Errorf("%d gaps were found, want %d", found, want)
	}
}

// The same for more entries, each of them with its own proof.
func TestNeighboursPutTogether(t *testing.T) {
	for _, list := range slices.DeleteFunc(gapContents(), func(list []impl.Entry) bool { return len(list) < 4 }) {
		root, n := rootByRule(list), len(list)
		entries, proofs := partsOfGaps(list)
		labels := labelsByRule(list)
		for _, missing := range missingLabels(list) {
			labels = append(labels, missing[len(missing)-1])
		}
		for at := range n + 1 {
			for i := range n + 1 {
				for j := range n + 1 {
					// The zero entry is the last one, and the zero proof the first.
					g := gapOf(at, entries[i], proofs[(i+1)%(n+1)], entries[j], proofs[(j+1)%(n+1)])
					right := j == at && i == (at+n)%(n+1)
					for k, label := range labels {
						checkAbsent(t, root, n, label, g, right && k == n+at)
					}
				}
			}
		}
	}
}

func TestNoOtherRootShowsAbsence(t *testing.T) {
	for _, c := range fewAbsentCases() {
		n := len(c.list)
		others := otherRoots(c.root, n, topByRule(leavesByRule(c.list)))
		if n > 0 {
			others = append(others, emptyRoot, impl.RootOf(c.list[1:]), impl.RootOf(c.list[:n-1]))
		}
		for _, root := range others {
			checkAbsent(t, root, n, c.label, c.gap, false)
		}
	}
}

func TestNoOtherCountShowsAbsence(t *testing.T) {
	for _, c := range fewAbsentCases() {
		n, top := len(c.list), topByRule(leavesByRule(c.list))
		others := append([]int{n + 1, n - 1, -n, n + modulus, n - modulus, n + 1<<32, n * 2, c.gap.At, c.gap.At - 1}, edgeCounts...)
		for _, count := range others {
			if count != n {
				checkAbsent(t, c.root, count, c.label, c.gap, false)
				checkAbsentByRule(t, rootOfTop(count, top), count, c.label, c.gap)
			}
		}
	}
}

// A gap is one of all labels between its neighbours, and of no others.
func TestNoOtherLabelIsAbsent(t *testing.T) {
	for _, list := range gapContents() {
		root, n, levels := rootByRule(list), len(list), levelsByRule(leavesByRule(list))
		missing := missingLabels(list)
		for at := range n + 1 {
			g := gapAt(list, levels, at)
			for k, labels := range missing {
				for _, label := range labels {
					checkAbsent(t, root, n, label, g, k == at)
				}
			}
		}
	}
}

// Strings that are no label have no gap, wherever they belong by their bytes.
func TestNoGapForWhatIsNoLabel(t *testing.T) {
	between := 0
	for _, c := range fewAbsentCases() {
		others := slices.Clone(noLabels)
		for _, s := range []string{c.label, c.gap.Before.Label, c.gap.After.Label} {
			others = append(others, s+"-", s+"\x00", s+"\xff", s+"/", "-"+s, strings.ToUpper(s)+"A", s+" ", s+"---------", s+"00000000a")
		}
		for _, s := range others {
			checkNoGap(t, c.list, s)
			checkAbsent(t, c.root, len(c.list), s, c.gap, false)
			if rankByRule(c.list, s) == c.gap.At && !slices.Contains(labelsByRule(c.list), s) {
				between++
			}
		}
	}
	if between < 10000 {
		t.Errorf("%d strings are between the neighbours", between)
	}
}

func TestNoOtherPlaceShowsAbsence(t *testing.T) {
	for _, c := range fewAbsentCases() {
		n, at := len(c.list), c.gap.At
		others := append([]int{at + 1, at - 1, -at, -at - 1, at + 1<<32, at - 1<<32, at + modulus, at + n, at - n, n, n + 1, 0}, edgeIndices...)
		for other := range 2*n + 3 {
			others = append(others, other)
		}
		for _, other := range others {
			if other == at {
				continue
			}
			moved := c.gap
			moved.At = other
			checkAbsent(t, c.root, n, c.label, moved, false)
			// The proofs are moved as well: they then lead somewhere else.
			moved.Left.At, moved.Right.At = other-1, other
			checkAbsent(t, c.root, n, c.label, moved, false)
		}
	}
}

// changedProofs are p with another index, or one element of its Path changed,
// missing or more, or two of them the other way round.
func changedProofs(p impl.Proof, given []int) []impl.Proof {
	changed := []impl.Proof{}
	for _, at := range []int{p.At + 1, p.At - 1, -p.At - 1, p.At + 1<<32, p.At + modulus, p.At ^ 16, math.MinInt, math.MaxInt} {
		changed = append(changed, proofOf(at, p.Path...))
	}
	for k := range len(p.Path) + 1 {
		for _, v := range append([]int{0, -1, 11, modulus, math.MinInt}, given...) {
			changed = append(changed, proofOf(p.At, slices.Insert(slices.Clone(p.Path), k, v)...))
		}
	}
	for k, beside := range p.Path {
		changed = append(changed, proofOf(p.At, slices.Delete(slices.Clone(p.Path), k, k+1)...), proofOf(p.At, p.Path[:k]...))
		for _, v := range otherNumbers(beside, given) {
			path := slices.Clone(p.Path)
			path[k] = v
			changed = append(changed, proofOf(p.At, path...))
		}
	}
	return slices.DeleteFunc(changed, func(other impl.Proof) bool { return equalProofsByRule(p, other) })
}

// changedGaps are g with one part changed: At, or one field of Before, After,
// Left or Right, or one of these as a whole, or the sides exchanged.
func changedGaps(g impl.Gap, given []int) []impl.Gap {
	changed := []impl.Gap{}
	for _, at := range []int{g.At + 1, g.At - 1, -g.At - 1, g.At + 1<<32, math.MinInt, math.MaxInt} {
		changed = append(changed, gapOf(at, g.Before, g.Left, g.After, g.Right))
	}
	for _, e := range append(changedEntries(g.Before), impl.Entry{}, g.After, entryOf("new", 1, 7)) {
		changed = append(changed, gapOf(g.At, e, g.Left, g.After, g.Right))
	}
	for _, e := range append(changedEntries(g.After), impl.Entry{}, g.Before, entryOf("new", 1, 7)) {
		changed = append(changed, gapOf(g.At, g.Before, g.Left, e, g.Right))
	}
	for _, p := range append(changedProofs(g.Left, given), impl.Proof{}, g.Right, proofOf(g.At-1, g.Right.Path...)) {
		changed = append(changed, gapOf(g.At, g.Before, p, g.After, g.Right))
	}
	for _, p := range append(changedProofs(g.Right, given), impl.Proof{}, g.Left, proofOf(g.At, g.Left.Path...)) {
		changed = append(changed, gapOf(g.At, g.Before, g.Left, g.After, p))
	}
	changed = append(changed, gapOf(g.At, g.After, g.Right, g.Before, g.Left), gapOf(g.At, impl.Entry{}, impl.Proof{}, g.After, g.Right), gapOf(g.At, g.Before, g.Left, impl.Entry{}, impl.Proof{}), gapOf(g.At, impl.Entry{}, impl.Proof{}, impl.Entry{}, impl.Proof{}))
	return slices.DeleteFunc(changed, func(other impl.Gap) bool { return equalGapsByRule(g, other) })
}

// hasSameLeaves reports whether the document's Hash cannot tell the entries of
// two gaps apart.
func hasSameLeaves(a impl.Gap, b impl.Gap) bool {
	return leafByRule(a.Before) == leafByRule(b.Before) && leafByRule(a.After) == leafByRule(b.After)
}

func TestNoChangedGapShowsAbsence(t *testing.T) {
	for _, c := range fewAbsentCases() {
		for _, other := range changedGaps(c.gap, leavesByRule(c.list)) {
			if !equalByRule(other.Before, c.gap.Before) || !equalByRule(other.After, c.gap.After) {
				if hasSameLeaves(other, c.gap) {
					t.Fatalf("%s and %s have the same leaves", shownGap(other), shownGap(c.gap))
				}
			}
			checkAbsent(t, c.root, len(c.list), c.label, other, false)
		}
	}
}

// The neighbour on one side is another entry with its own proof, or one that
// is not valid, or missing; or there is one though there is none.
func TestNoOtherNeighbourShowsAbsence(t *testing.T) {
	for _, c := range fewAbsentCases() {
		n, at := len(c.list), c.gap.At
		entries, proofs := partsOfGaps(c.list)
		for i, e := range entries {
			own := proofs[(i+1)%(n+1)]
			for _, p := range []impl.Proof{own, {}, proofOf(at, own.Path...), proofOf(at-1, own.Path...), proofOf(-1), proofOf(n), proofOf(0, 0)} {
				g := c.gap
				g.Before, g.Left = e, p
				checkAbsent(t, c.root, n, c.label, g, equalGapsByRule(g, c.gap))
				g = c.gap
				g.After, g.Right = e, p
				checkAbsent(t, c.root, n, c.label, g, equalGapsByRule(g, c.gap))
			}
		}
		for _, e := range append(brokenEntriesOf(c.label), entryOf(c.label, 1, 7)) {
			g := c.gap
			g.Before = e
			checkAbsent(t, c.root, n, c.label, g, false)
			g = c.gap
			g.After = e
			checkAbsent(t, c.root, n, c.label, g, false)
		}
	}
}

// An entry that is not valid is no neighbour, though its leaf is the same.
func TestNoInvalidNeighbourShowsAbsence(t *testing.T) {
	for _, c := range fewAbsentCases() {
		if c.gap.At > 0 {
			for _, e := range sameLeaf(c.gap.Before) {
				checkAbsent(t, c.root, len(c.list), c.label, gapOf(c.gap.At, e, c.gap.Left, c.gap.After, c.gap.Right), false)
			}
		}
		if c.gap.At < len(c.list) {
			for _, e := range sameLeaf(c.gap.After) {
				checkAbsent(t, c.root, len(c.list), c.label, gapOf(c.gap.At, c.gap.Before, c.gap.Left, e, c.gap.Right), false)
			}
		}
	}
}

// The order of labels is asked for on both sides: two neighbours with a label
// before or behind both have proofs that fit, but show nothing.
func TestLabelsHaveToBeBetween(t *testing.T) {
	a, m, z := entryOf("a", 1, 7), entryOf("m", 2, 7), entryOf("z", 3, 7, "x")
	for _, c := range []struct {
		list  []impl.Entry
		label string
		want  []int
	}{
		{[]impl.Entry{a, m, z}, "0", []int{0}}, {[]impl.Entry{a, m, z}, "b", []int{1}}, {[]impl.Entry{a, m, z}, "o", []int{2}}, {[]impl.Entry{a, m, z}, "zz", []int{3}}, {[]impl.Entry{a, m, z}, "a", nil}, {[]impl.Entry{a, m, z}, "m", nil}, {[]impl.Entry{a, m, z}, "z", nil},
		// A list that is not in order has a root and proofs, too: a label is between
		// neighbours where it goes by their labels, whether it is there or not.
		{[]impl.Entry{m, a, z}, "0", []int{0}}, {[]impl.Entry{m, a, z}, "a", []int{0}}, {[]impl.Entry{m, a, z}, "b", []int{0, 2}}, {[]impl.Entry{m, a, z}, "m", []int{2}}, {[]impl.Entry{m, a, z}, "o", []int{2}}, {[]impl.Entry{m, a, z}, "zz", []int{3}},
		{[]impl.Entry{z, m, a}, "m", []int{0, 3}}, {[]impl.Entry{z, m, a}, "o", []int{0, 3}}, {[]impl.Entry{z, m, a}, "zz", []int{3}}, {[]impl.Entry{z, m, a}, "z", []int{3}}, {[]impl.Entry{z, m, a}, "0", []int{0}}, {[]impl.Entry{z, m, a}, "a", []int{0}},
		{[]impl.Entry{a, a, z}, "b", []int{2}}, {[]impl.Entry{a, a, z}, "a", nil}, {[]impl.Entry{a, z, z}, "b", []int{1}}, {[]impl.Entry{a, z, z}, "z", nil},
	} {
		root, levels := impl.RootOf(c.list), levelsByRule(leavesByRule(c.list))
		for at := range len(c.list) + 1 {
			g := gapAt(c.list, levels, at)
			checkAbsent(t, root, len(c.list), c.label, g, slices.Contains(c.want, at))
			checkAbsentByRule(t, root, len(c.list), c.label, g)
		}
	}
}

// Nil and empty are the same, also where there is no neighbour.
func TestGapsWithEmptyPaths(t *testing.T) {
	changed := 0
	for _, c := range fewAbsentCases() {
		g := c.gap
		for _, path := range []*[]string{&g.Before.Path, &g.After.Path} {
			if len(*path) == 0 {
				*path = make([]string, 0, 3)
				changed++
			}
		}
		for _, path := range []*[]int{&g.Left.Path, &g.Right.Path} {
			if len(*path) == 0 {
				*path = make([]int, 0, 3)
				changed++
			}
		}
		checkAbsent(t, c.root, len(c.list), c.label, g, true)
		if !impl.EqualGaps(g, c.gap) || !impl.EqualGaps(c.gap, g) {
			t.Errorf("%s with empty lists is another gap", shownGap(c.gap))
		}
	}
	if changed < 500 {
		t.Errorf("%d lists are empty", changed)
	}
}

// Numbers that are the same modulo Modulus are the same for the document's
// Hash, and so are two entries with the same leaf; a root is compared as it is.
func TestGapsThatAreTheSameForHash(t *testing.T) {
	for _, c := range fewAbsentCases() {
		g, n := copiedGap(c.gap), len(c.list)
		for _, path := range [][]int{g.Left.Path, g.Right.Path} {
			for k := range path {
				path[k] += []int{modulus, -modulus, 1000 * modulus}[k%3]
			}
		}
		checkAbsent(t, c.root, n, c.label, g, true)
		checkAbsent(t, c.root+modulus, n, c.label, g, false)
		checkAbsent(t, c.root-modulus, n, c.label, g, false)
		for _, e := range []*impl.Entry{&g.Before, &g.After} {
			if e.Kind == 1 {
				*e = impl.ZoneEntry(e.Label, e.Value-1000003+modulus)
			}
		}
		checkAbsent(t, c.root, n, c.label, g, true)
	}
}

// By the document's Hash leaves that are equally often on the left can be
// exchanged. An entry is then shown at another place, and a gap beside it may
// be one of a label that is there, as the definition of CheckAbsence says.
func TestGapsBesideExchangedEntries(t *testing.T) {
	same, different := 0, 0
	for _, list := range gapContents() {
		root, n := rootByRule(list), len(list)
		for j := range list {
			for i := range j {
				levels := levelsByRule(leavesByRule(swapped(list, i, j)))
				exchanged := timesLeft(i, n) == timesLeft(j, n)
				if i > 0 {
					checkAbsent(t, root, n, list[i].Label, gapAt(swapped(list, i, j), levels, i), exchanged)
				}
				checkAbsent(t, root, n, list[j].Label, gapAt(swapped(list, i, j), levels, j+1), exchanged)
				if exchanged {
					same++
				} else {
					different++
				}
				for at := range n + 1 {
					for _, e := range list {
						checkAbsentByRule(t, root, n, e.Label, gapAt(swapped(list, i, j), levels, at))
					}
				}
			}
		}
	}
	if same < 200 || different < 500 {
		t.Errorf("%d pairs can be exchanged, %d cannot", same, different)
	}
}

// The document's Hash is not secure: CheckAbsence believes paths that were
// computed for other neighbours, as its definition says.
func TestForgedGaps(t *testing.T) {
	forged := 0
	for _, list := range gapContents() {
		n, leaves := len(list), leavesByRule(list)
		root, top, levels := rootByRule(list), topByRule(leaves), levelsByRule(leaves)
		for i, e := range list {
			if n < 2 {
				continue
			}
			g := gapAt(list, levels, i)
			g.After = entryOf("zzzzzzzz", 1, 7)
			g.Right.Path[0] = forgedElement(top, leafByRule(g.After), i, n, g.Right.Path, 0)
			checkAbsent(t, root, n, e.Label, g, true)
			g.After.Value = -1
			checkAbsent(t, root, n, e.Label, g, false)
			g = gapAt(list, levels, i+1)
			g.Before = entryOf("0", 2, 7)
			g.Left.Path[0] = forgedElement(top, leafByRule(g.Before), i, n, g.Left.Path, 0)
			checkAbsent(t, root, n, e.Label, g, true)
			checkAbsent(t, root, n, "0", g, false)
			forged++
		}
	}
	if forged < 400 {
		t.Errorf("%d gaps were forged", forged)
	}
}

func TestProveAbsence(t *testing.T) {
	ann, bob, mail, shop := entryOf("ann", 1, 7), entryOf("bob", 3, 9, "x", "y"), entryOf("mail", 1, 3), entryOf("shop", 2, 12345)
	three, four := []impl.Entry{ann, bob, shop}, []impl.Entry{ann, bob, mail, shop}
	none, no := impl.Entry{}, impl.Proof{}
	for _, c := range []struct {
		list  []impl.Entry
		label string
		want  impl.Gap
		ok    bool
	}{
		{nil, "ann", impl.Gap{}, true}, {[]impl.Entry{}, "0", impl.Gap{}, true}, {[]impl.Entry{}, "zzzzzzzz", impl.Gap{}, true},
		{[]impl.Entry{ann}, "an", gapOf(0, none, no, ann, proofOf(0)), true}, {[]impl.Entry{ann}, "0", gapOf(0, none, no, ann, proofOf(0)), true}, {[]impl.Entry{ann}, "ann0", gapOf(1, ann, proofOf(0), none, no), true}, {[]impl.Entry{ann}, "ann-a", gapOf(1, ann, proofOf(0), none, no), true},
		{[]impl.Entry{ann, bob}, "a", gapOf(0, none, no, ann, proofOf(0, 516354259)), true}, {[]impl.Entry{ann, bob}, "anna", gapOf(1, ann, proofOf(0, 516354259), bob, proofOf(1, 132890426)), true}, {[]impl.Entry{ann, bob}, "bo", gapOf(1, ann, proofOf(0, 516354259), bob, proofOf(1, 132890426)), true}, {[]impl.Entry{ann, bob}, "bobo", gapOf(2, bob, proofOf(1, 132890426), none, no), true},
		{three, "9", gapOf(0, none, no, ann, proofOf(0, 516354259, 831960378)), true}, {three, "apple", gapOf(1, ann, proofOf(0, 516354259, 831960378), bob, proofOf(1, 132890426, 831960378)), true}, {three, "sh0p", gapOf(2, bob, proofOf(1, 132890426, 831960378), shop, proofOf(2, 951081172)), true}, {three, "zoo", gapOf(3, shop, proofOf(2, 951081172), none, no), true},
		{four, "mai", gapOf(2, bob, proofOf(1, 132890426, 1011329055), mail, proofOf(2, 831960378, 951081172)), true}, {four, "mai1", gapOf(2, bob, proofOf(1, 132890426, 1011329055), mail, proofOf(2, 831960378, 951081172)), true}, {four, "mailbox", gapOf(3, mail, proofOf(2, 831960378, 951081172), shop, proofOf(3, 881374023, 951081172)), true}, {four, "shops", gapOf(4, shop, proofOf(3, 881374023, 951081172), none, no), true},
		// It is there.
		{[]impl.Entry{ann}, "ann", impl.Gap{}, false}, {three, "ann", impl.Gap{}, false}, {three, "bob", impl.Gap{}, false}, {three, "shop", impl.Gap{}, false}, {four, "mail", impl.Gap{}, false},
		// It is no label.
		{nil, "", impl.Gap{}, false}, {nil, "-", impl.Gap{}, false}, {nil, "Ann", impl.Gap{}, false}, {nil, "abcdefghi", impl.Gap{}, false}, {nil, "x/y", impl.Gap{}, false}, {three, "", impl.Gap{}, false}, {three, "ann\x00", impl.Gap{}, false}, {three, "ann-", impl.Gap{}, false}, {three, "Bob", impl.Gap{}, false}, {three, "-zoo", impl.Gap{}, false}, {three, "\xff", impl.Gap{}, false}, {three, "zzzzzzzzz", impl.Gap{}, false},
		// The list is no valid contents.
		{[]impl.Entry{bob, ann}, "cat", impl.Gap{}, false}, {[]impl.Entry{bob, ann}, "a", impl.Gap{}, false}, {[]impl.Entry{ann, ann}, "cat", impl.Gap{}, false}, {[]impl.Entry{ann, entryOf("ann", 2, 7)}, "a", impl.Gap{}, false}, {[]impl.Entry{ann, shop, bob}, "az", impl.Gap{}, false},
		{[]impl.Entry{{}}, "cat", impl.Gap{}, false}, {[]impl.Entry{{}, ann}, "zoo", impl.Gap{}, false}, {[]impl.Entry{ann, entryOf("bob", 1, -1)}, "a", impl.Gap{}, false}, {[]impl.Entry{ann, entryOf("bob", 4, 7)}, "az", impl.Gap{}, false}, {[]impl.Entry{entryOf("A", 1, 7)}, "zoo", impl.Gap{}, false}, {[]impl.Entry{ann, entryOf("bob", 3, 9)}, "zoo", impl.Gap{}, false},
	} {
		got, ok := impl.ProveAbsence(c.list, c.label)
		if !equalGapsByRule(got, c.want) || ok != c.ok {
			t.Errorf("ProveAbsence(%s, %q) is %s, %v, want %s, %v", shownList(c.list), c.label, shownGap(got), ok, shownGap(c.want), c.ok)
		}
		checkGap(t, c.list, c.label)
	}
}

// Lists that are no valid contents have no gaps, before, between and behind
// their entries.
func TestNoGapInInvalidContents(t *testing.T) {
	for _, list := range brokenContents() {
		labels := []string{"0--0", "b-0", "mmm", "zzzzzzzz", "new"}
		if len(list) > 0 {
			labels = append(labels, list[0].Label, list[len(list)-1].Label)
		}
		for _, label := range labels {
			checkNoGap(t, list, label)
		}
	}
}

// MaxEntries entries are not too many; one more is.
func TestNoGapInTooManyEntries(t *testing.T) {
	labels := zoneLabels()
	for n := 11; n <= len(labels); n++ {
		list := variedEntries(labels[:n], n)
		levels, root := levelsByRule(leavesByRule(list)), impl.RootOf(list)
		for at, missing := range missingLabels(list) {
			for _, label := range missing[:min(len(missing), 3)] {
				checkGap(t, list, label)
				if n > maxEntries {
					checkNoGap(t, list, label)
				}
				checkAbsent(t, root, n, label, gapAt(list, levels, at), n <= 12)
				checkAbsent(t, root, 12, label, gapAt(list, levels, at), n == 12)
				checkAbsentByRule(t, rootOfTop(12, topByRule(leavesByRule(list))), 12, label, gapAt(list, levels, at))
			}
		}
	}
}

// Lists of any entries, order and length.
func TestGapsInAnyList(t *testing.T) {
	found, refused := 0, 0
	for _, list := range slices.Concat([][]impl.Entry{nil, {}}, smallLists(), anyLists(), validContents()) {
		labels := append(labelsByRule(list), "", "0", "a", "A", "ao", "a-b", "b", "new", "zzzzzzzz")
		for _, label := range labels[max(0, len(labels)-20):] {
			checkGap(t, list, label)
			checkRank(t, list, label)
			if _, ok := impl.ProveAbsence(list, label); ok {
				found++
			} else {
				refused++
			}
		}
	}
	if found < 1000 || refused < 5000 {
		t.Errorf("%d labels have a gap, %d have none", found, refused)
	}
}

func TestCheckAbsence(t *testing.T) {
	ann, bob, mail, shop := entryOf("ann", 1, 7), entryOf("bob", 3, 9, "x", "y"), entryOf("mail", 1, 3), entryOf("shop", 2, 12345)
	const one, two, three, four = 1031714379, 1850905128, 1951092841, 2131461521
	none, no := impl.Entry{}, impl.Proof{}
	first := gapOf(0, none, no, ann, proofOf(0, 516354259))
	middle := gapOf(1, ann, proofOf(0, 516354259), bob, proofOf(1, 132890426))
	last := gapOf(2, bob, proofOf(1, 132890426), none, no)
	for _, c := range []struct {
		root, count int
		label       string
		g           impl.Gap
		want        bool
	}{
		{emptyRoot, 0, "ann", impl.Gap{}, true}, {one, 1, "an", gapOf(0, none, no, ann, no), true}, {one, 1, "bob", gapOf(1, ann, no, none, no), true}, {two, 2, "0", first, true}, {two, 2, "a", first, true}, {two, 2, "ann0", middle, true}, {two, 2, "bo", middle, true}, {two, 2, "bob-b", last, true}, {two, 2, "zzzzzzzz", last, true},
		{three, 3, "cat", gapOf(2, bob, proofOf(1, 132890426, 831960378), shop, proofOf(2, 951081172)), true}, {four, 4, "mailbox", gapOf(3, mail, proofOf(2, 831960378, 951081172), shop, proofOf(3, 881374023, 951081172)), true},
		// A label that is there, or is none, or belongs to another gap.
		{one, 1, "ann", gapOf(0, none, no, ann, no), false}, {one, 1, "ann", gapOf(1, ann, no, none, no), false}, {two, 2, "ann", first, false}, {two, 2, "ann", middle, false}, {two, 2, "bob", middle, false}, {two, 2, "bob", last, false}, {two, 2, "bob", first, false}, {two, 2, "ann", last, false},
		{emptyRoot, 0, "", impl.Gap{}, false}, {emptyRoot, 0, "Ann", impl.Gap{}, false}, {emptyRoot, 0, "-", impl.Gap{}, false}, {emptyRoot, 0, "abcdefghi", impl.Gap{}, false}, {two, 2, "A", first, false}, {two, 2, "", first, false}, {two, 2, "ann-", middle, false}, {two, 2, "ann\x00", middle, false}, {two, 2, "bob\xff", last, false},
		{two, 2, "az", first, false}, {two, 2, "a", middle, false}, {two, 2, "c", middle, false}, {two, 2, "az", last, false}, {two, 2, "c", first, false}, {two, 2, "a", last, false},
		// Another root or count.
		{emptyRoot + 1, 0, "ann", impl.Gap{}, false}, {emptyRoot - 1, 0, "ann", impl.Gap{}, false}, {emptyRoot + modulus, 0, "ann", impl.Gap{}, false}, {emptyRoot - modulus, 0, "ann", impl.Gap{}, false}, {0, 0, "ann", impl.Gap{}, false}, {5, 0, "ann", impl.Gap{}, false}, {11000275 - 33, 0, "ann", impl.Gap{}, false}, {one, 0, "ann", impl.Gap{}, false}, {math.MinInt, 0, "ann", impl.Gap{}, false}, {math.MaxInt, 0, "ann", impl.Gap{}, false},
		{emptyRoot, 1, "ann", impl.Gap{}, false}, {emptyRoot, -1, "ann", impl.Gap{}, false}, {emptyRoot, math.MinInt, "ann", impl.Gap{}, false}, {emptyRoot, 12, "ann", impl.Gap{}, false}, {emptyRoot, 13, "ann", impl.Gap{}, false}, {emptyRoot, math.MaxInt, "ann", impl.Gap{}, false}, {emptyRoot, -1, "ann", impl.Gap{At: -1}, false}, {emptyRoot, math.MinInt, "ann", impl.Gap{At: math.MinInt}, false},
		{two + 1, 2, "a", first, false}, {two, 1, "a", first, false}, {two, 3, "a", first, false}, {two, 0, "a", first, false}, {two, 1, "ann0", middle, false}, {two, 3, "ann0", middle, false}, {one, 2, "ann0", middle, false}, {two, 1, "c", last, false}, {two, 3, "c", last, false}, {-two, 2, "c", last, false}, {two, 2, "c", impl.Gap{}, false}, {two, -2, "c", last, false},
		// Another place.
		{emptyRoot, 0, "ann", impl.Gap{At: 1}, false}, {emptyRoot, 0, "ann", impl.Gap{At: -1}, false}, {emptyRoot, 0, "ann", impl.Gap{At: math.MinInt}, false}, {two, 2, "a", gapOf(1, none, no, ann, proofOf(0, 516354259)), false}, {two, 2, "a", gapOf(-1, none, no, ann, proofOf(0, 516354259)), false}, {two, 2, "ann0", gapOf(0, ann, proofOf(0, 516354259), bob, proofOf(1, 132890426)), false}, {two, 2, "ann0", gapOf(2, ann, proofOf(0, 516354259), bob, proofOf(1, 132890426)), false}, {two, 2, "c", gapOf(3, bob, proofOf(1, 132890426), none, no), false}, {two, 2, "c", gapOf(1, bob, proofOf(1, 132890426), none, no), false},
		// Neighbours that are not beside each other.
		{three, 3, "az", gapOf(1, ann, proofOf(0, 516354259, 831960378), shop, proofOf(2, 951081172)), false}, {three, 3, "bob", gapOf(1, ann, proofOf(0, 516354259, 831960378), shop, proofOf(2, 951081172)), false}, {three, 3, "bob", gapOf(2, ann, proofOf(0, 516354259, 831960378), shop, proofOf(2, 951081172)), false},
		// One that is not zero, or zero, where it must not be.
		{emptyRoot, 0, "bob", gapOf(0, ann, no, none, no), false}, {emptyRoot, 0, "bob", gapOf(0, none, no, shop, no), false}, {emptyRoot, 0, "bob", gapOf(0, none, proofOf(-1), none, no), false}, {emptyRoot, 0, "bob", gapOf(0, none, proofOf(0, 0), none, no), false}, {emptyRoot, 0, "bob", gapOf(0, none, no, none, proofOf(0, 0)), false}, {emptyRoot, 0, "bob", gapOf(0, entryOf("", 0, 0, ""), no, none, no), false}, {emptyRoot, 0, "bob", gapOf(0, none, no, entryOf("", 0, 1), no), false}, {emptyRoot, 0, "bob", gapOf(0, none, no, none, proofOf(1)), false},
		{two, 2, "a", gapOf(0, entryOf("0", 1, 7), no, ann, proofOf(0, 516354259)), false}, {two, 2, "a", gapOf(0, none, proofOf(-1), ann, proofOf(0, 516354259)), false}, {two, 2, "c", gapOf(2, bob, proofOf(1, 132890426), shop, no), false}, {two, 2, "c", gapOf(2, bob, proofOf(1, 132890426), none, proofOf(2)), false}, {two, 2, "ann0", gapOf(1, ann, proofOf(0, 516354259), none, no), false}, {two, 2, "ann0", gapOf(1, none, no, bob, proofOf(1, 132890426)), false},
		// Another proof.
		{two, 2, "ann0", gapOf(1, ann, proofOf(1, 516354259), bob, proofOf(1, 132890426)), false}, {two, 2, "ann0", gapOf(1, ann, proofOf(0, 516354259), bob, proofOf(0, 132890426)), false}, {two, 2, "ann0", gapOf(1, ann, proofOf(0), bob, proofOf(1, 132890426)), false}, {two, 2, "ann0", gapOf(1, ann, proofOf(0, 516354259), bob, proofOf(1, 132890426, 0)), false}, {two, 2, "ann0", gapOf(1, ann, proofOf(0, 516354258), bob, proofOf(1, 132890426)), false}, {two, 2, "ann0", gapOf(1, ann, proofOf(0, 516354259), bob, proofOf(1, 132890427)), false}, {two, 2, "ann0", gapOf(1, bob, proofOf(1, 132890426), ann, proofOf(0, 516354259)), false},
	} {
		checkAbsent(t, c.root, c.count, c.label, c.g, c.want)
		checkAbsentByRule(t, c.root, c.count, c.label, c.g)
	}
}

// Every count and place, with neighbours of all indexes and lengths of paths,
// also with a root that goes with one of them.
func TestCheckAbsenceOfAllArguments(t *testing.T) {
	b, y, long, found := entryOf("b", 1, 7), entryOf("y", 3, 7, "x"), dataInts(40), 0
	for _, count := range edgeCounts {
		for _, at := range edgeIndices {
			for _, path := range [][]int{nil, long[:1], long[3:5], long[5:8], long[7:11], long[20:25]} {
				left, right := proofOf(at-1, path...), proofOf(at, path...)
				roots := []int{emptyRoot, 0, rootOfTop(count, 0), rootOfTop(count, leafByRule(b)), math.MinInt, math.MaxInt}
				if top, ok := topFromByRule(leafByRule(b), at-1, count, path); ok {
					roots = append(roots, rootOfTop(count, top), rootOfTop(count, top)+modulus)
				}
				if top, ok := topFromByRule(leafByRule(y), at, count, path); ok {
					roots = append(roots, rootOfTop(count, top), rootOfTop(count, top)-modulus)
				}
				slices.Sort(roots)
				roots = slices.Compact(roots)
				gaps := []impl.Gap{
					{At: at}, gapOf(at, b, left, impl.Entry{}, impl.Proof{}), gapOf(at, impl.Entry{}, impl.Proof{}, y, right), gapOf(at, b, left, y, right),
					gapOf(at, b, right, y, left), gapOf(at, impl.Entry{}, left, impl.Entry{}, right), gapOf(at, b, impl.Proof{}, y, impl.Proof{}),
				}
				for _, g := range gaps {
					for _, root := range roots {
						checkAbsentByRule(t, root, count, "m", g)
						if absentByRule(root, count, "m", g) {
							found++
						}
					}
				}
			}
		}
	}
	// One length for the first and for the last of 1 to 12 entries, and every path
	// for the empty list, whose gap is there alone.
	if want := 2*maxEntries + 6; found != want {
		t.Errorf("%d gaps are shown, want %d", found, want)
	}
}

// Very large and very small elements of both paths.
func TestCheckAbsenceWithEdgeElements(t *testing.T) {
	for _, c := range fewAbsentCases() {
		if n := len(c.list); n != 2 && n != 7 && n != 12 {
			continue
		}
		for _, v := range slices.Concat(edgeKeys, edgeValues) {
			for k := range c.gap.Left.Path {
				g := copiedGap(c.gap)
				g.Left.Path[k] = v
				checkAbsentByRule(t, c.root, len(c.list), c.label, g)
			}
			for k := range c.gap.Right.Path {
				g := copiedGap(c.gap)
				g.Right.Path[k] = v
				checkAbsentByRule(t, c.root, len(c.list), c.label, g)
			}
		}
	}
}

func TestRankOf(t *testing.T) {
	ann, bob, shop := entryOf("ann", 1, 7), entryOf("bob", 3, 9, "x", "y"), entryOf("shop", 2, 12345)
	three := []impl.Entry{ann, bob, shop}
	for _, c := range []struct {
		list  []impl.Entry
		label string
		want  int
	}{
		{nil, "ann", 0}, {nil, "", 0}, {[]impl.Entry{}, "zzzzzzzz", 0}, {[]impl.Entry{ann}, "ann", 0}, {[]impl.Entry{ann}, "an", 0}, {[]impl.Entry{ann}, "ann0", 1}, {[]impl.Entry{ann}, "b", 1},
		{three, "0", 0}, {three, "a", 0}, {three, "ann", 0}, {three, "anna", 1}, {three, "az", 1}, {three, "b", 1}, {three, "bob", 1}, {three, "bob-b", 2}, {three, "cat", 2}, {three, "shop", 2}, {three, "shops", 3}, {three, "zoo", 3},
		// Strings that are no label have a rank by their bytes.
		{three, "", 0}, {three, "\x00", 0}, {three, "ANN", 0}, {three, "Zoo", 0}, {three, "-", 0}, {three, "ann\x00", 1}, {three, "ann-", 1}, {three, "abcdefghi", 0}, {three, "bob/", 2}, {three, "\xff", 3}, {three, "{", 3}, {three, "\u00e9", 3}, {three, strings.Repeat("z", 5000), 3},
		// The list need not be valid contents.
		{[]impl.Entry{shop, bob, ann}, "cat", 2}, {[]impl.Entry{shop, ann, bob}, "b", 1}, {[]impl.Entry{shop, shop, shop}, "zoo", 3}, {[]impl.Entry{shop, shop, shop}, "shop", 0}, {[]impl.Entry{ann, ann, bob, ann}, "az", 3}, {[]impl.Entry{bob, ann}, "b", 1}, {[]impl.Entry{bob, ann}, "bob", 1},
		{[]impl.Entry{{}}, "", 0}, {[]impl.Entry{{}}, "a", 1}, {[]impl.Entry{{}, {}, ann}, "ann", 2}, {[]impl.Entry{entryOf("A", 9, -5), ann}, "a", 1}, {[]impl.Entry{entryOf("\xff", 1, 7), ann}, "zzzzzzzz", 1}, {[]impl.Entry{entryOf("a", 7, -1), entryOf("a", 3, 7)}, "b", 2}, {slices.Repeat([]impl.Entry{ann}, 5000), "b", 5000}, {slices.Repeat([]impl.Entry{ann}, 5000), "ann", 0},
	} {
		if got := impl.RankOf(c.list, c.label); got != c.want {
			t.Errorf("RankOf(%s, %.40q) is %d, want %d", shownList(c.list), c.label, got, c.want)
		}
		checkRank(t, c.list, c.label)
	}
}

func TestRanksInAllContents(t *testing.T) {
	labels := slices.Concat(zoneLabels(), labelsAndOthers(), entryLabels)
	for _, list := range slices.Concat(gapContents(), [][]impl.Entry{nil}, fullContents()) {
		for _, label := range labels {
			checkRank(t, list, label)
		}
		for i, e := range list {
			if got := impl.RankOf(list, e.Label); got != i || got != impl.FindEntry(list, e.Label) {
				t.Errorf("RankOf(%s, %q) is %d", shownList(list), e.Label, got)
			}
		}
	}
	for i, list := range brokenContents() {
		checkRank(t, list, labels[i%len(labels)])
		checkRank(t, list, list[i%len(list)].Label)
		checkRank(t, list, "m")
	}
}

func TestEqualGaps(t *testing.T) {
	ann, bob := entryOf("ann", 1, 7), entryOf("bob", 3, 9, "x", "y")
	g := gapOf(1, ann, proofOf(0, 5, 6), bob, proofOf(1, 7, 8))
	for _, c := range []struct {
		a, b impl.Gap
		want bool
	}{
		{impl.Gap{}, impl.Gap{}, true}, {g, g, true}, {g, gapOf(1, ann, proofOf(0, 5, 6), bob, proofOf(1, 7, 8)), true}, {impl.Gap{At: math.MinInt}, impl.Gap{At: math.MinInt}, true},
		{impl.Gap{}, gapOf(0, impl.Entry{Path: []string{}}, impl.Proof{}, impl.Entry{}, impl.Proof{}), true}, {impl.Gap{}, gapOf(0, impl.Entry{}, impl.Proof{Path: []int{}}, impl.Entry{}, impl.Proof{}), true}, {impl.Gap{}, gapOf(0, impl.Entry{}, impl.Proof{}, impl.Entry{Path: []string{}}, impl.Proof{}), true}, {impl.Gap{}, gapOf(0, impl.Entry{}, impl.Proof{}, impl.Entry{}, impl.Proof{Path: make([]int, 0, 5)}), true},
		{g, impl.Gap{}, false}, {g, gapOf(1, bob, proofOf(1, 7, 8), ann, proofOf(0, 5, 6)), false}, {g, gapOf(1, bob, proofOf(0, 5, 6), ann, proofOf(1, 7, 8)), false}, {g, gapOf(1, ann, proofOf(1, 7, 8), bob, proofOf(0, 5, 6)), false},
		{g, gapOf(2, ann, proofOf(0, 5, 6), bob, proofOf(1, 7, 8)), false}, {g, gapOf(-1, ann, proofOf(0, 5, 6), bob, proofOf(1, 7, 8)), false}, {g, gapOf(1+1<<32, ann, proofOf(0, 5, 6), bob, proofOf(1, 7, 8)), false}, {impl.Gap{At: math.MinInt}, impl.Gap{At: math.MaxInt}, false},
		{g, gapOf(1, impl.Entry{}, proofOf(0, 5, 6), bob, proofOf(1, 7, 8)), false}, {g, gapOf(1, entryOf("anna", 1, 7), proofOf(0, 5, 6), bob, proofOf(1, 7, 8)), false}, {g, gapOf(1, entryOf("ann", 2, 7), proofOf(0, 5, 6), bob, proofOf(1, 7, 8)), false}, {g, gapOf(1, entryOf("ann", 1, 8), proofOf(0, 5, 6), bob, proofOf(1, 7, 8)), false}, {g, gapOf(1, entryOf("ann", 1, 7, ""), proofOf(0, 5, 6), bob, proofOf(1, 7, 8)), false},
		{g, gapOf(1, ann, proofOf(0, 5, 6), impl.Entry{}, proofOf(1, 7, 8)), false}, {g, gapOf(1, ann, proofOf(0, 5, 6), entryOf("b0b", 3, 9, "x", "y"), proofOf(1, 7, 8)), false}, {g, gapOf(1, ann, proofOf(0, 5, 6), entryOf("bob", 2, 9, "x", "y"), proofOf(1, 7, 8)), false}, {g, gapOf(1, ann, proofOf(0, 5, 6), entryOf("bob", 3, 9+modulus, "x", "y"), proofOf(1, 7, 8)), false}, {g, gapOf(1, ann, proofOf(0, 5, 6), entryOf("bob", 3, 9, "x"), proofOf(1, 7, 8)), false}, {g, gapOf(1, ann, proofOf(0, 5, 6), entryOf("bob", 3, 9, "y", "x"), proofOf(1, 7, 8)), false},
		{g, gapOf(1, ann, impl.Proof{}, bob, proofOf(1, 7, 8)), false}, {g, gapOf(1, ann, proofOf(1, 5, 6), bob, proofOf(1, 7, 8)), false}, {g, gapOf(1, ann, proofOf(0, 5), bob, proofOf(1, 7, 8)), false}, {g, gapOf(1, ann, proofOf(0, 5, 6, 0), bob, proofOf(1, 7, 8)), false}, {g, gapOf(1, ann, proofOf(0, 5, 6+modulus), bob, proofOf(1, 7, 8)), false}, {g, gapOf(1, ann, proofOf(0, 6, 5), bob, proofOf(1, 7, 8)), false},
		{g, gapOf(1, ann, proofOf(0, 5, 6), bob, impl.Proof{}), false}, {g, gapOf(1, ann, proofOf(0, 5, 6), bob, proofOf(0, 7, 8)), false}, {g, gapOf(1, ann, proofOf(0, 5, 6), bob, proofOf(1, 8)), false}, {g, gapOf(1, ann, proofOf(0, 5, 6), bob, proofOf(1, 0, 7, 8)), false}, {g, gapOf(1, ann, proofOf(0, 5, 6), bob, proofOf(1, -7, 8)), false}, {g, gapOf(1, ann, proofOf(0, 5, 6), bob, proofOf(1, 8, 7)), false},
		// Entries with the same leaf are not the same.
		{gapOf(1, ann, proofOf(0), impl.Entry{}, impl.Proof{}), gapOf(1, impl.ZoneEntry("ann", 7-1000003+modulus), proofOf(0), impl.Entry{}, impl.Proof{}), false},
	} {
		if impl.EqualGaps(c.a, c.b) != c.want || impl.EqualGaps(c.b, c.a) != c.want {
			t.Errorf("%s and %s: EqualGaps is %v, %v", shownGap(c.a), shownGap(c.b), impl.EqualGaps(c.a, c.b), impl.EqualGaps(c.b, c.a))
		}
	}
}

// Each field of each part in turn is changed.
func TestEqualGapsWithOneChange(t *testing.T) {
	for _, c := range fewAbsentCases() {
		for _, same := range []impl.Gap{c.gap, copiedGap(c.gap), spareGap(c.gap)} {
			if !impl.EqualGaps(c.gap, same) || !impl.EqualGaps(same, c.gap) {
				t.Errorf("%s is not equal to itself", shownGap(c.gap))
			}
		}
		for _, other := range changedGaps(c.gap, nil) {
			if impl.EqualGaps(c.gap, other) || impl.EqualGaps(other, c.gap) {
				t.Errorf("%s and %s are equal", shownGap(c.gap), shownGap(other))
			}
		}
	}
}

func TestEqualGapsOfAllPairs(t *testing.T) {
	all := []impl.Gap{}
	entries := []impl.Entry{{}, {Path: []string{}}, entryOf("a", 1, 7), entryOf("a", 3, 7, "x")}
	proofs := []impl.Proof{{}, {Path: []int{}}, proofOf(1), proofOf(0, 0)}
	for i := range 2 * 4 * 4 * 4 * 4 {
		all = append(all, gapOf(i%2, entries[i/2%4], proofs[i/8%4], entries[i/32%4], proofs[i/128]))
	}
	equal := 0
	for _, a := range all {
		for _, b := range all {
			got := impl.EqualGaps(a, b)
			if got != equalGapsByRule(a, b) {
				t.Errorf("EqualGaps(%s, %s) is %v", shownGap(a), shownGap(b), got)
			}
			if got {
				equal++
			}
		}
	}
	// Of four elements two are equal, so six of 16 pairs are.
	if want := 2 * 6 * 6 * 6 * 6; equal != want {
		t.Errorf("%d pairs are equal, want %d", equal, want)
	}
}

// copiedGap returns g with lists of its own.
func copiedGap(g impl.Gap) impl.Gap {
	g.Before.Path, g.After.Path = slices.Clone(g.Before.Path), slices.Clone(g.After.Path)
	g.Left.Path, g.Right.Path = slices.Clone(g.Left.Path), slices.Clone(g.Right.Path)
	return g
}

// spareGap returns g with spare capacity behind each of its lists.
func spareGap(g impl.Gap) impl.Gap {
	g.Before.Path, _ = spareStrings(g.Before.Path)
	g.After.Path, _ = spareStrings(g.After.Path)
	g.Left.Path, _ = spareInts(g.Left.Path)
	g.Right.Path, _ = spareInts(g.Right.Path)
	return g
}

// wholeGap returns a copy of g with all that each of its lists reaches.
func wholeGap(g impl.Gap) impl.Gap {
	g.Before.Path, g.After.Path = g.Before.Path[:cap(g.Before.Path)], g.After.Path[:cap(g.After.Path)]
	g.Left.Path, g.Right.Path = g.Left.Path[:cap(g.Left.Path)], g.Right.Path[:cap(g.Right.Path)]
	return copiedGap(g)
}

// overwriteGap changes everything that g reaches.
func overwriteGap(g impl.Gap) {
	overwriteStrings(g.Before.Path)
	overwriteStrings(g.After.Path)
	overwriteInts(g.Left.Path)
	overwriteInts(g.Right.Path)
}

func TestAbsenceFunctionsLeaveTheirArguments(t *testing.T) {
	for n, start := range slices.Concat(argumentLists(), gapContents()) {
		list, whole := spareEntries(start)
		before, root := wholeEntries(whole), impl.RootOf(start)
		for _, label := range []string{"0--0", "a", "b-0", "ccc", "mmm", "zzzzzzzz", "", "A"} {
			proved, ok := impl.ProveAbsence(list, label)
			impl.RankOf(list, label)
			g := spareGap(proved)
			if !ok && n%2 == 0 && len(list) > 0 {
				g = spareGap(gapOf(1, list[0], proofOf(0, dataInts(n%5)...), list[len(list)-1], proofOf(1, 2, 3)))
			}
			other := spareGap(g)
			gBefore, otherBefore := wholeGap(g), wholeGap(other)
			impl.CheckAbsence(root, len(start), label, g)
			impl.CheckAbsence(n, 1, label, g)
			impl.EqualGaps(g, other)
			impl.EqualGaps(other, proved)
			overwriteGap(proved)
			if !equalGapsByRule(wholeGap(g), gBefore) || !equalGapsByRule(wholeGap(other), otherBefore) {
				t.Errorf("a function wrote into %s or its spare capacity", shownGap(g))
			}
		}
		if !sameByRule(list, start) || !sameByRule(wholeEntries(whole), before) {
			t.Errorf("a function wrote into %s or its spare capacity, or shares memory with it", shownList(start))
		}
	}
}

// What is done to an argument or to another result does not reach a result.
func TestGapsAreTheirOwn(t *testing.T) {
	for _, c := range fewAbsentCases() {
		list, whole := spareEntries(c.list)
		g, _ := impl.ProveAbsence(list, c.label)
		again, _ := impl.ProveAbsence(list, c.label)
		overwriteGap(again)
		for _, labels := range missingLabels(c.list) {
			again, _ = impl.ProveAbsence(list, labels[0])
			overwriteGap(again)
		}
		for _, e := range c.list {
			proof, _ := impl.ProveEntry(list, e.Label)
			overwriteInts(proof.Path)
		}
		overwriteEntries(whole)
		if !equalGapsByRule(g, c.gap) {
			t.Errorf("ProveAbsence(%s, %q) changed afterwards to %s", shownList(c.list), c.label, shownGap(g))
		}
	}
}

// No two lists of one gap share memory, also where the entries share a Path.
func TestListsOfOneGapAreTheirOwn(t *testing.T) {
	path := []string{"x", "y", "z"}
	list := []impl.Entry{entryOf("a", 3, 7, path...), entryOf("b", 3, 7, path...), entryOf("m", 3, 7, path[:2]...), entryOf("z", 3, 7, path[:1]...)}
	for _, label := range []string{"0", "a0", "ccc", "n", "zz"} {
		want, _ := gapByRule(list, label)
		want = copiedGap(want)
		g, ok := impl.ProveAbsence(list, label)
		overwriteStrings(g.Before.Path)
		overwriteInts(g.Left.Path)
		if !ok || !slices.Equal(g.After.Path, want.After.Path) || !equalProofsByRule(g.Right, want.Right) {
			t.Errorf("the lists of %s share memory", shownGap(g))
		}
		g, _ = impl.ProveAbsence(list, label)
		overwriteStrings(g.After.Path)
		overwriteInts(g.Right.Path)
		if !slices.Equal(g.Before.Path, want.Before.Path) || !equalProofsByRule(g.Left, want.Left) {
			t.Errorf("the lists of %s share memory", shownGap(g))
		}
	}
	if !slices.Equal(path, []string{"x", "y", "z"}) {
		t.Errorf("the Path of the arguments is %q", path)
	}
}

// The order of a map is another one in each call, but no result is.
func TestGapsAreTheSameInEachCall(t *testing.T) {
	cases := fewAbsentCases()
	for n := range 1000 {
		c := cases[n*7%len(cases)]
		if g, ok := impl.ProveAbsence(c.list, c.label); !ok || !equalGapsByRule(g, c.gap) {
			t.Errorf("ProveAbsence(%s, %q) is %s, %v", shownList(c.list), c.label, shownGap(g), ok)
		}
	}
}

// Every function returns for arguments of any size.
func TestLargeGaps(t *testing.T) {
	long, path := strings.Repeat("abc\xff", 20000), dataInts(100001)
	many := slices.Repeat([]impl.Entry{entryOf("a", 1, 7), entryOf("b", 3, 7, "x", "", "\xff"), {}}, 7000)
	many = append(many, entryOf(long, 1, 7), entryOf("z", 3, 7, slices.Repeat([]string{"a", long[:300]}, 500)...))
	large := gapOf(1, many[len(many)-2], proofOf(0, path...), many[len(many)-1], proofOf(1, path...))
	root := rootByRule(many)
	for _, label := range []string{"a", "b", "aa", "", "z", "new", long, long + "a"} {
		checkNoGap(t, many, label)
		checkRank(t, many, label)
		for _, count := range []int{0, 1, 2, 12, 13, len(many), -len(many), math.MinInt, math.MaxInt} {
			for _, g := range []impl.Gap{large, gapOf(1, many[0], proofOf(0, path...), many[1], proofOf(1, path...)), gapOf(count, many[0], proofOf(count-1, path...), impl.Entry{}, impl.Proof{}), gapOf(0, impl.Entry{}, impl.Proof{}, many[1], proofOf(0, path...))} {
				checkAbsent(t, root, count, label, g, false)
				checkAbsent(t, emptyRoot, count, label, g, false)
			}
		}
	}
	other := copiedGap(large)
	if !impl.EqualGaps(large, other) {
		t.Error("a large gap is not equal to its copy")
	}
	other.Right.Path[100000]++
	if impl.EqualGaps(large, other) || impl.EqualGaps(other, large) {
		t.Error("a large gap is equal to another one")
	}
}
