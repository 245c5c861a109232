package tests

import (
	"fmt"
	"math"
	"slices"
	"strings"
	"testing"

	"loop.example/g00588/impl"
)

const maxEntries = 12

// shownList is a list of entries in a message of a test, cut off where it is
// long.
func shownList(list []impl.Entry) string {
	parts := []string{}
	for _, e := range list[:min(len(list), 14)] {
		parts = append(parts, shown(e))
	}
	return fmt.Sprintf("%d entries %s", len(list), strings.Join(parts, " "))
}

// labelsByRule are the labels of a list, in its order.
func labelsByRule(list []impl.Entry) []string {
	labels := []string{}
	for _, e := range list {
		labels = append(labels, e.Label)
	}
	return labels
}

// areEntriesByRule sorts the labels and removes those that are there twice,
// which changes nothing in valid contents.
func areEntriesByRule(list []impl.Entry) bool {
	if len(list) > maxEntries || slices.ContainsFunc(list, func(e impl.Entry) bool { return !isEntryByRule(e) }) {
		return false
	}
	labels := labelsByRule(list)
	return slices.Equal(labels, slices.Compact(slices.Sorted(slices.Values(labels))))
}

// findByRule goes from the end to the beginning.
func findByRule(list []impl.Entry, label string) int {
	found := -1
	for i := len(list) - 1; i >= 0; i-- {
		if list[i].Label == label {
			found = i
		}
	}
	return found
}

// dropByRule returns list itself where the entry cannot be removed.
func dropByRule(list []impl.Entry, label string) ([]impl.Entry, bool) {
	rest := without(list, label)
	if !areEntriesByRule(list) || len(rest) == len(list) {
		return list, false
	}
	return rest, true
}

// putByRule returns list itself where the entry cannot be put.
func putByRule(list []impl.Entry, e impl.Entry) ([]impl.Entry, bool) {
	put := append(without(list, e.Label), e)
	slices.SortFunc(put, func(a impl.Entry, b impl.Entry) int { return strings.Compare(a.Label, b.Label) })
	if !areEntriesByRule(list) || !areEntriesByRule(put) {
		return list, false
	}
	return put, true
}

// without returns a list of its own, with the entries that have another label.
func without(list []impl.Entry, label string) []impl.Entry {
	return slices.DeleteFunc(slices.Clone(list), func(e impl.Entry) bool { return e.Label == label })
}

func alikeByRule(list []impl.Entry, label string) []string {
	alike := []string{}
	for _, s := range labelsByRule(list) {
		if s != label && labelForm.MatchString(s) && labelForm.MatchString(label) && plainByRule(s) == plainByRule(label) {
			alike = append(alike, s)
		}
	}
	return alike
}

func sameByRule(a []impl.Entry, b []impl.Entry) bool {
	for i := range min(len(a), len(b)) {
		if !equalByRule(a[i], b[i]) {
			return false
		}
	}
	return len(a) == len(b)
}

// zoneLabels are labels in order, with others between any two of them and
// beginnings of others among them.
func zoneLabels() []string {
	labels := []string{"00000000", "mmmmmmmm", "z", "zzzzzzzz"}
	visitStrings(3, []string{"0", "a", "m", "-"}, func(s string) {
		if labelForm.MatchString(s) {
			labels = append(labels, s)
		}
	})
	slices.Sort(labels)
	return labels
}

// variedEntry returns a valid entry of a kind and with a value that go by n.
func variedEntry(label string, n int) impl.Entry {
	switch n % 4 {
	case 0:
		return entryOf(label, 1, n)
	case 1:
		return entryOf(label, 2, 1000000+n)
	case 2:
		return entryOf(label, 3, 2000000+n, "x", label)
	}
	return entryOf(label, 3, n, "abcdefgh", "a", "b", "c")
}

// kindsOf returns valid entries of all kinds with this label.
func kindsOf(label string) []impl.Entry {
	return []impl.Entry{
		entryOf(label, 1, 0), entryOf(label, 1, 999999), entryOf(label, 2, 0), entryOf(label, 2, modulus-1),
		entryOf(label, 3, 7, "x"), entryOf(label, 3, modulus-1, "a", "b", "c", label), {Label: label, Kind: 2, Value: 7, Path: []string{}},
	}
}

func variedEntries(labels []string, first int) []impl.Entry {
	list := []impl.Entry{}
	for i, label := range labels {
		list = append(list, variedEntry(label, first+i))
	}
	return list
}

// validContents are contents of every number of entries from none to
// MaxEntries, with entries of all kinds at each place.
func validContents() [][]impl.Entry {
	all, labels := [][]impl.Entry{nil}, zoneLabels()
	for n := range maxEntries + 1 {
		for first := range 3 {
			for step := 1; step <= 4; step++ {
				chosen := []string{}
				for i := range n {
					chosen = append(chosen, labels[first+step*i])
				}
				all = append(all, variedEntries(chosen, first+step))
			}
		}
		last := labels[len(labels)-n:]
		all = append(all, variedEntries(last, n), variedEntries(last, n+1))
	}
	return all
}

// fullContents are those of MaxEntries entries.
func fullContents() [][]impl.Entry {
	return slices.DeleteFunc(validContents(), func(list []impl.Entry) bool { return len(list) < maxEntries })
}

// brokenEntriesOf are entries that are not valid: those with this label, for
// all other reasons, and those with a label that is none.
func brokenEntriesOf(label string) []impl.Entry {
	broken := []impl.Entry{
		{Label: label}, entryOf(label, 0, 7), entryOf(label, 4, 7), entryOf(label, -1, 7), entryOf(label, -3, 7, "x"), entryOf(label, 4, 7, "x"), entryOf(label, 1<<32+1, 7), entryOf(label, math.MinInt, 7),
		entryOf(label, 1, -1), entryOf(label, 1, 1000000), entryOf(label, 1, math.MinInt), entryOf(label, 1, math.MaxInt), entryOf(label, 2, -1), entryOf(label, 2, modulus), entryOf(label, 3, -1, "x"), entryOf(label, 3, modulus, "x"),
		entryOf(label, 1, 7, "x"), entryOf(label, 2, 7, "x"), entryOf(label, 1, 7, ""), entryOf(label, 2, 7, label, label), entryOf(label, 3, 7), {Label: label, Kind: 3, Value: 7, Path: []string{}},
		entryOf(label, 3, 7, ""), entryOf(label, 3, 7, "X"), entryOf(label, 3, 7, "a", "b", "c", "-"), entryOf(label, 3, 7, "a/b"), entryOf(label, 3, 7, "a", "b", "c", "d", "e"), entryOf(label, 3, 7, "abcdefghi"),
	}
	for i, s := range noLabels {
		broken = append(broken, variedEntry(s, i))
	}
	for _, s := range []string{label + "-", "-" + label, label + "\x00", strings.Repeat(label, 9)} {
		broken = append(broken, entryOf(s, 1, 7), entryOf(s, 2, 7), entryOf(s, 3, 7, "x"))
	}
	return broken
}

// with returns list with e inserted at i.
func with(list []impl.Entry, i int, e ...impl.Entry) []impl.Entry {
	return slices.Insert(slices.Clone(list), i, e...)
}

// replaced returns list with e in place of its element i.
func replaced(list []impl.Entry, i int, e impl.Entry) []impl.Entry {
	changed := slices.Clone(list)
	changed[i] = e
	return changed
}

// swapped returns list with two elements the other way round.
func swapped(list []impl.Entry, i int, j int) []impl.Entry {
	return replaced(replaced(list, i, list[j]), j, list[i])
}

// brokenContents are lists that are no valid contents: elements that are not in
// order, labels that are there twice, entries that are not valid, or too many.
func brokenContents() [][]impl.Entry {
	broken := [][]impl.Entry{}
	for n := 1; n <= maxEntries; n++ {
		list := variedEntries([]string{"0", "0-0", "00", "a", "a-m", "a0", "aa", "b", "m", "m0", "s", "z"}[maxEntries-n:], n)
		bad := brokenEntriesOf(list[n/2].Label)
		for i, e := range list {
			for j := range i {
				broken = append(broken, swapped(list, j, i), replaced(list, i, variedEntry(list[j].Label, i)), replaced(list, j, variedEntry(list[i].Label, i)))
			}
			broken = append(broken, with(list, i, e), with(list, i, variedEntry(e.Label, i+n+1)), with(list, n, e), with(list, 0, e))
			for _, other := range brokenEntriesOf(e.Label)[:28] {
				broken = append(broken, replaced(list, i, other))
			}
			broken = append(broken, replaced(list, i, bad[28+(n*maxEntries+i)%(len(bad)-28)]))
		}
		for _, other := range bad {
			broken = append(broken, with(list, 0, other), with(list, n/2, other), with(list, n, other))
		}
	}
	for n := maxEntries + 1; n < 25; n++ {
		broken = append(broken, variedEntries(zoneLabels()[:n], n))
	}
	return broken
}

// anyLists are lists of all sorts of entries, most of them no valid contents.
func anyLists() [][]impl.Entry {
	all := [][]impl.Entry{nil, {}, {{}}, {{}, {}}, someEntries()[:200], validEntries()[:300], slices.Repeat([]impl.Entry{entryOf("shop", 1, 7)}, 5000)}
	for _, labels := range [][]string{goodLabels, noLabels, labelsAndOthers(), entryLabels, {"shop", "sh0p", "shop", "5hop", "SHOP", "s-hop", "shop-", "shops"}} {
		back := slices.Clone(labels)
		slices.Reverse(back)
		all = append(all, variedEntries(labels, 0), variedEntries(back, 1), variedEntries(slices.Concat(labels, back), 2))
	}
	return all
}

// smallLists are all lists of at most three of some entries, valid or not.
func smallLists() [][]impl.Entry {
	elements := []impl.Entry{entryOf("a", 1, 7), entryOf("a", 3, 7, "x", "y"), entryOf("a0", 2, 7), entryOf("ao", 3, 8, "x"), entryOf("b", 1, 7), entryOf("b", 1, -1), entryOf("B", 1, 7), {}}
	places := []int{}
	for i := range elements {
		places = append(places, i)
	}
	all := [][]impl.Entry{}
	for _, chosen := range intLists(3, places) {
		list := []impl.Entry{}
		for _, i := range chosen {
			list = append(list, elements[i])
		}
		all = append(all, list)
	}
	return all
}

func checkPut(t *testing.T, list []impl.Entry, e impl.Entry) {
	t.Helper()
	want, wantOk := putByRule(list, e)
	got, ok := impl.PutEntry(list, e)
	if !sameByRule(got, want) || ok != wantOk {
		t.Errorf("PutEntry of %s into %s is %s, %v, want %s, %v", shown(e), shownList(list), shownList(got), ok, shownList(want), wantOk)
	}
}

func checkDrop(t *testing.T, list []impl.Entry, label string) {
	t.Helper()
	want, wantOk := dropByRule(list, label)
	got, ok := impl.DropEntry(list, label)
	if !sameByRule(got, want) || ok != wantOk {
		t.Errorf("DropEntry of %.40q from %s is %s, %v, want %s, %v", label, shownList(list), shownList(got), ok, shownList(want), wantOk)
	}
}

// checkRefused fails unless the list comes back as it was.
func checkRefused(t *testing.T, name string, list []impl.Entry, got []impl.Entry, ok bool) {
	t.Helper()
	if ok || !sameByRule(got, list) {
		t.Errorf("%s of %s is %s, %v", name, shownList(list), shownList(got), ok)
	}
}

func checkFind(t *testing.T, list []impl.Entry, label string) {
	t.Helper()
	if got, want := impl.FindEntry(list, label), findByRule(list, label); got != want {
		t.Errorf("FindEntry(%s, %.40q) is %d, want %d", shownList(list), label, got, want)
	}
}

func checkAlike(t *testing.T, list []impl.Entry, label string) {
	t.Helper()
	if got, want := impl.AlikeIn(list, label), alikeByRule(list, label); !slices.Equal(got, want) {
		t.Errorf("AlikeIn(%s, %.40q) is %.60q, want %.60q", shownList(list), label, got, want)
	}
}

// checkFound fails unless the contents hold just these entries, each of them
// found at its place.
func checkFound(t *testing.T, list []impl.Entry, want map[string]impl.Entry) {
	t.Helper()
	if !impl.AreEntries(list) || len(list) != len(want) {
		t.Fatalf("%s are no valid contents, or not %d entries", shownList(list), len(want))
	}
	for label, e := range want {
		i := impl.FindEntry(list, label)
		if i < 0 || i >= len(list) || !equalByRule(list[i], e) {
			t.Errorf("%s was put and is found at %d of %s", shown(e), i, shownList(list))
		}
	}
}

// entriesByLabel returns what valid contents hold.
func entriesByLabel(list []impl.Entry) map[string]impl.Entry {
	held := map[string]impl.Entry{}
	for _, e := range list {
		held[e.Label] = e
	}
	return held
}

func TestMaxEntries(t *testing.T) {
	if impl.MaxEntries != 12 {
		t.Errorf("MaxEntries is %d", impl.MaxEntries)
	}
}

// This is promise 9: every entry that can be put is found, and the others are
// found as they were.
func TestAnEntryThatWasPutIsFound(t *testing.T) {
	labels, sizes := zoneLabels(), map[int]int{}
	ahead, behind, between, inPlace := 0, 0, 0, 0
	for _, list := range validContents() {
		for _, label := range labels {
			at := impl.FindEntry(list, label)
			for _, e := range kindsOf(label) {
				got, ok := impl.PutEntry(list, e)
				if at < 0 && len(list) == maxEntries {
					checkRefused(t, "PutEntry of an entry too many", list, got, ok)
					continue
				}
				if !ok {
					t.Fatalf("%s cannot be put into %s", shown(e), shownList(list))
				}
				want := entriesByLabel(list)
				want[label] = e
				checkFound(t, got, want)
				i := impl.FindEntry(got, label)
				switch {
				case at >= 0 && i == at:
					inPlace++
				case at >= 0:
					t.Errorf("%s was put in place of entry %d and is found at %d", shown(e), at, i)
				case i == 0:
					ahead++
				case i == len(got)-1:
					behind++
				default:
					between++
				}
				sizes[len(list)]++
			}
		}
	}
	if len(sizes) != maxEntries+1 || ahead < 1000 || behind < 1000 || between < 1000 || inPlace < 1000 {
		t.Errorf("entries were put into contents of %d sizes: %d ahead, %d behind, %d between others, %d in place of one", len(sizes), ahead, behind, between, inPlace)
	}
}

// All subsets of some labels, some the beginning of others, and each label.
func TestPutIntoAllSubsets(t *testing.T) {
	labels := []string{"0", "a", "a-a", "a0", "aa", "ab", "b", "zzzzzzzz"}
	for bits := range 1 << len(labels) {
		chosen := []string{}
		for i, label := range labels {
			if bits>>i&1 == 1 {
				chosen = append(chosen, label)
			}
		}
		list := variedEntries(chosen, bits)
		for i, label := range labels {
			e := variedEntry(label, bits+i+1)
			got, ok := impl.PutEntry(list, e)
			want := entriesByLabel(list)
			want[label] = e
			if !ok {
				t.Fatalf("%s cannot be put into %s", shown(e), shownList(list))
			}
			checkFound(t, got, want)
			checkDrop(t, list, label)
			dropped, ok := impl.DropEntry(got, label)
			delete(want, label)
			if !ok || impl.FindEntry(dropped, label) != -1 {
				t.Errorf("DropEntry of %q from %s is %s, %v", label, shownList(got), shownList(dropped), ok)
			}
			checkFound(t, dropped, want)
		}
	}
}

// Entries that are put in any order are the same contents in the end.
func TestPutInAnyOrder(t *testing.T) {
	labels := []string{"0", "0-0", "00", "a", "a-m", "a0", "aa", "b", "m", "m0", "s", "z"}
	want := variedEntries(labels, 5)
	for step := 1; step < 13; step++ {
		list, held := []impl.Entry{}, map[string]impl.Entry{}
		for i := 1; i <= maxEntries; i++ {
			e := want[i*step%13-1]
			var old, ok bool
			list, old = impl.PutEntry(list, entryOf(e.Label, 1, i))
			list, ok = impl.PutEntry(list, e)
			if !old || !ok {
				t.Fatalf("%s cannot be put into %s", shown(e), shownList(list))
			}
			held[e.Label] = e
			checkFound(t, list, held)
		}
		if !sameByRule(list, want) {
			t.Errorf("with the step %d: %s", step, shownList(list))
		}
		for i := 1; i <= maxEntries; i++ {
			label, ok := labels[i*i*step%13%maxEntries], false
			_, there := held[label]
			list, ok = impl.DropEntry(list, label)
			delete(held, label)
			if ok != there {
				t.Errorf("DropEntry of %q is %v", label, ok)
			}
			checkFound(t, list, held)
		}
	}
}

func TestPutEntry(t *testing.T) {
	ann, bob, mail := entryOf("ann", 1, 7), entryOf("bob", 2, 8), entryOf("mail", 3, 9, "x", "y")
	three := []impl.Entry{ann, bob, mail}
	for _, c := range []struct {
		list []impl.Entry
		e    impl.Entry
		want []impl.Entry
		ok   bool
	}{
		{nil, ann, []impl.Entry{ann}, true}, {[]impl.Entry{}, mail, []impl.Entry{mail}, true}, {[]impl.Entry{bob}, ann, []impl.Entry{ann, bob}, true}, {[]impl.Entry{ann}, bob, []impl.Entry{ann, bob}, true}, {[]impl.Entry{ann, mail}, bob, three, true},
		{three, entryOf("a", 1, 7), []impl.Entry{entryOf("a", 1, 7), ann, bob, mail}, true}, {three, entryOf("annn", 1, 7), []impl.Entry{ann, entryOf("annn", 1, 7), bob, mail}, true}, {three, entryOf("z", 1, 7), []impl.Entry{ann, bob, mail, entryOf("z", 1, 7)}, true}, {three, entryOf("0", 1, 7), []impl.Entry{entryOf("0", 1, 7), ann, bob, mail}, true},
		// In place of one with the same label.
		{three, ann, three, true}, {three, mail, three, true}, {three, entryOf("ann", 1, 8), []impl.Entry{entryOf("ann", 1, 8), bob, mail}, true}, {three, entryOf("bob", 1, 8), []impl.Entry{ann, entryOf("bob", 1, 8), mail}, true}, {three, entryOf("bob", 3, 8, "bob"), []impl.Entry{ann, entryOf("bob", 3, 8, "bob"), mail}, true},
		{three, entryOf("mail", 3, 9, "x"), []impl.Entry{ann, bob, entryOf("mail", 3, 9, "x")}, true}, {three, entryOf("mail", 3, 9, "y", "x"), []impl.Entry{ann, bob, entryOf("mail", 3, 9, "y", "x")}, true}, {three, entryOf("mail", 2, 9), []impl.Entry{ann, bob, entryOf("mail", 2, 9)}, true}, {[]impl.Entry{bob}, entryOf("bob", 2, 9), []impl.Entry{entryOf("bob", 2, 9)}, true},
		// Labels that look alike are different labels.
		{[]impl.Entry{entryOf("shop", 1, 7)}, entryOf("sh0p", 1, 8), []impl.Entry{entryOf("sh0p", 1, 8), entryOf("shop", 1, 7)}, true}, {[]impl.Entry{entryOf("ab", 1, 7)}, entryOf("a-b", 1, 8), []impl.Entry{entryOf("a-b", 1, 8), entryOf("ab", 1, 7)}, true},
		// An entry that is not valid, whether its label is there or not.
		{three, entryOf("ann", 1, -1), three, false}, {three, entryOf("ann", 1, 1000000), three, false}, {three, entryOf("bob", 4, 7), three, false}, {three, entryOf("mail", 3, 9), three, false}, {three, entryOf("new", 0, 7), three, false}, {three, entryOf("Ann", 1, 7), three, false}, {three, impl.Entry{}, three, false}, {nil, impl.Entry{}, nil, false}, {nil, entryOf("ann", 2, modulus), nil, false},
		// A list that is no valid contents, even if the result were.
		{[]impl.Entry{bob, ann}, mail, []impl.Entry{bob, ann}, false}, {[]impl.Entry{bob, ann}, bob, []impl.Entry{bob, ann}, false}, {[]impl.Entry{ann, ann}, ann, []impl.Entry{ann, ann}, false}, {[]impl.Entry{ann, entryOf("bob", 9, 9)}, bob, []impl.Entry{ann, entryOf("bob", 9, 9)}, false}, {[]impl.Entry{{}}, ann, []impl.Entry{{}}, false},
	} {
		if got, ok := impl.PutEntry(c.list, c.e); !sameByRule(got, c.want) || ok != c.ok {
			t.Errorf("PutEntry(%s, %s) is %s, %v, want %s, %v", shownList(c.list), shown(c.e), shownList(got), ok, shownList(c.want), c.ok)
		}
	}
}

func TestPutIntoFullContents(t *testing.T) {
	refused, put := 0, 0
	for _, list := range fullContents() {
		for _, label := range append(zoneLabels(), goodLabels...) {
			for _, e := range kindsOf(label) {
				checkPut(t, list, e)
				got, ok := impl.PutEntry(list, e)
				if there := slices.Contains(labelsByRule(list), label); ok != there || len(got) != maxEntries {
					t.Errorf("PutEntry of %s into %s is %v", shown(e), shownList(list), ok)
				}
				if ok {
					put++
				} else {
					refused++
				}
			}
		}
	}
	if refused < 1000 || put < 500 {
		t.Errorf("%d entries were refused, %d were put", refused, put)
	}
}

func TestPutOfInvalidEntries(t *testing.T) {
	for i, list := range validContents() {
		labels := []string{"new", "0-0-0"}
		if len(list) > 0 {
			labels = append(labels, list[0].Label, list[len(list)/2].Label, list[len(list)-1].Label)
		}
		for _, e := range brokenEntriesOf(labels[i%len(labels)]) {
			if impl.IsEntry(e) {
				t.Fatalf("%s is valid", shown(e))
			}
			got, ok := impl.PutEntry(list, e)
			checkRefused(t, "PutEntry of an invalid entry", list, got, ok)
		}
	}
}

// Neither an entry nor its removal makes valid contents of a list that is none.
func TestChangesOfInvalidContents(t *testing.T) {
	for n, list := range brokenContents() {
		if areEntriesByRule(list) || impl.AreEntries(list) {
			t.Fatalf("%s are valid contents", shownList(list))
		}
		entries := []impl.Entry{variedEntry("new", n), variedEntry("0-0-0", n), variedEntry("zzzzzzzz", n), entryOf("new", 0, 7), {}}
		for i, e := range list {
			entries = append(entries, e, variedEntry(e.Label, n+i))
		}
		for _, e := range entries {
			got, ok := impl.PutEntry(list, e)
			checkRefused(t, "PutEntry of "+shown(e), list, got, ok)
			got, ok = impl.DropEntry(list, e.Label)
			checkRefused(t, fmt.Sprintf("DropEntry of %.40q", e.Label), list, got, ok)
		}
	}
}

func TestDropEntry(t *testing.T) {
	ann, bob, mail := entryOf("ann", 1, 7), entryOf("bob", 2, 8), entryOf("mail", 3, 9, "x", "y")
	three := []impl.Entry{ann, bob, mail}
	for _, c := range []struct {
		list  []impl.Entry
		label string
		want  []impl.Entry
		ok    bool
	}{
		{three, "ann", []impl.Entry{bob, mail}, true}, {three, "bob", []impl.Entry{ann, mail}, true}, {three, "mail", []impl.Entry{ann, bob}, true}, {[]impl.Entry{ann}, "ann", nil, true}, {[]impl.Entry{mail}, "mail", nil, true}, {[]impl.Entry{ann, bob}, "ann", []impl.Entry{bob}, true}, {[]impl.Entry{ann, bob}, "bob", []impl.Entry{ann}, true},
		// There is none.
		{three, "zoo", three, false}, {three, "a", three, false}, {three, "annn", three, false}, {three, "an", three, false}, {three, "ma-il", three, false}, {three, "b0b", three, false}, {nil, "ann", nil, false}, {[]impl.Entry{}, "ann", nil, false}, {[]impl.Entry{bob}, "ann", []impl.Entry{bob}, false},
		{three, "", three, false}, {nil, "", nil, false}, {three, "Ann", three, false}, {three, "ANN", three, false}, {three, "ann-", three, false}, {three, " ann", three, false}, {three, "ann\x00", three, false}, {three, "x", three, false}, {three, "x/y", three, false}, {three, "\xff", three, false}, {three, strings.Repeat("ann", 5000), three, false},
		// A list that is no valid contents, even if the result were.
		{[]impl.Entry{bob, ann}, "ann", []impl.Entry{bob, ann}, false}, {[]impl.Entry{bob, ann}, "zoo", []impl.Entry{bob, ann}, false}, {[]impl.Entry{ann, ann}, "ann", []impl.Entry{ann, ann}, false}, {[]impl.Entry{{}}, "", []impl.Entry{{}}, false}, {[]impl.Entry{entryOf("B", 1, 7)}, "B", []impl.Entry{entryOf("B", 1, 7)}, false}, {[]impl.Entry{ann, entryOf("bob", 9, 9)}, "bob", []impl.Entry{ann, entryOf("bob", 9, 9)}, false},
	} {
		if got, ok := impl.DropEntry(c.list, c.label); !sameByRule(got, c.want) || ok != c.ok {
			t.Errorf("DropEntry(%s, %.40q) is %s, %v, want %s, %v", shownList(c.list), c.label, shownList(got), ok, shownList(c.want), c.ok)
		}
	}
}

func TestDropOfEachEntry(t *testing.T) {
	for _, list := range validContents() {
		for i, e := range list {
			got, ok := impl.DropEntry(list, e.Label)
			want := slices.Delete(slices.Clone(list), i, i+1)
			if !ok || !sameByRule(got, want) || !impl.AreEntries(got) || impl.FindEntry(got, e.Label) != -1 {
				t.Errorf("DropEntry of entry %d of %s is %s, %v", i, shownList(list), shownList(got), ok)
			}
			if back, ok := impl.PutEntry(got, e); !ok || !sameByRule(back, list) {
				t.Errorf("%s was removed from %s and put again: %s, %v", shown(e), shownList(list), shownList(back), ok)
			}
		}
		for _, label := range slices.Concat(zoneLabels(), labelsAndOthers(), entryLabels) {
			checkDrop(t, list, label)
		}
	}
}

func TestAreEntries(t *testing.T) {
	ann, bob, mail := entryOf("ann", 1, 7), entryOf("bob", 2, 8), entryOf("mail", 3, 9, "x", "y")
	for _, c := range []struct {
		list []impl.Entry
		want bool
	}{
		{nil, true}, {[]impl.Entry{}, true}, {[]impl.Entry{ann}, true}, {[]impl.Entry{bob}, true}, {[]impl.Entry{mail}, true}, {[]impl.Entry{ann, bob}, true}, {[]impl.Entry{ann, bob, mail}, true}, {[]impl.Entry{ann, mail}, true},
		// Not in order.
		{[]impl.Entry{bob, ann}, false}, {[]impl.Entry{mail, bob, ann}, false}, {[]impl.Entry{bob, ann, mail}, false}, {[]impl.Entry{ann, mail, bob}, false}, {[]impl.Entry{mail, ann, bob}, false}, {[]impl.Entry{bob, mail, ann}, false},
		// Equal labels, of neighbours and others.
		{[]impl.Entry{ann, ann}, false}, {[]impl.Entry{ann, entryOf("ann", 1, 8)}, false}, {[]impl.Entry{ann, entryOf("ann", 2, 7)}, false}, {[]impl.Entry{ann, bob, bob}, false}, {[]impl.Entry{ann, ann, bob}, false}, {[]impl.Entry{ann, bob, ann}, false}, {[]impl.Entry{bob, mail, bob}, false},
		// One label is the beginning of the other.
		{[]impl.Entry{entryOf("a", 1, 7), entryOf("aa", 1, 7)}, true}, {[]impl.Entry{entryOf("aa", 1, 7), entryOf("a", 1, 7)}, false}, {[]impl.Entry{entryOf("abcdefg", 1, 7), entryOf("abcdefgh", 1, 7)}, true}, {[]impl.Entry{entryOf("abcdefgh", 1, 7), entryOf("abcdefg", 1, 7)}, false}, {[]impl.Entry{entryOf("a", 1, 7), entryOf("a-b", 1, 7), entryOf("a0", 1, 7), entryOf("ab", 1, 7), entryOf("b", 1, 7)}, true},
		// The order is that of the bytes, not that of lengths or of numbers.
		{[]impl.Entry{entryOf("b", 1, 7), entryOf("aa", 1, 7)}, false}, {[]impl.Entry{entryOf("10", 1, 7), entryOf("9", 1, 7)}, true}, {[]impl.Entry{entryOf("9", 1, 7), entryOf("10", 1, 7)}, false}, {[]impl.Entry{entryOf("9", 1, 7), entryOf("a", 1, 7)}, true}, {[]impl.Entry{entryOf("a-z", 1, 7), entryOf("a0", 1, 7)}, true}, {[]impl.Entry{entryOf("ab", 1, 7), entryOf("a-b", 1, 7)}, false},
		// Labels that look alike may both be there.
		{[]impl.Entry{entryOf("sh0p", 1, 7), entryOf("shop", 1, 7)}, true}, {[]impl.Entry{entryOf("0", 1, 7), entryOf("o", 1, 7)}, true},
		// An entry that is not valid, at each place.
		{[]impl.Entry{{}}, false}, {[]impl.Entry{{}, ann}, false}, {[]impl.Entry{entryOf("ann", 1, -1), bob, mail}, false}, {[]impl.Entry{ann, entryOf("bob", 2, modulus), mail}, false}, {[]impl.Entry{ann, bob, entryOf("mail", 3, 9)}, false}, {[]impl.Entry{entryOf("ann", 4, 7)}, false}, {[]impl.Entry{ann, entryOf("bob", 1, 8, "x")}, false}, {[]impl.Entry{entryOf("A", 1, 7), ann}, false}, {[]impl.Entry{ann, entryOf("z-", 1, 7)}, false}, {[]impl.Entry{entryOf("", 1, 7)}, false},
	} {
		if got := impl.AreEntries(c.list); got != c.want {
			t.Errorf("AreEntries(%s) is %v", shownList(c.list), got)
		}
	}
}

func TestAreEntriesOfAllNumbers(t *testing.T) {
	labels := zoneLabels()
	for first := range 3 {
		for n := range len(labels) - first + 1 {
			if got := impl.AreEntries(variedEntries(labels[first:first+n], n)); got != (n <= 12) {
				t.Errorf("AreEntries of %d entries is %v", n, got)
			}
		}
	}
	for _, list := range validContents() {
		if !impl.AreEntries(list) {
			t.Errorf("%s are no valid contents", shownList(list))
		}
	}
}

func TestSmallLists(t *testing.T) {
	all, valid := smallLists(), 0
	labels := []string{"", "a", "A", "a0", "ao", "b", "B", "0", "z"}
	for _, list := range all {
		got := impl.AreEntries(list)
		if got != areEntriesByRule(list) {
			t.Errorf("AreEntries(%s) is %v", shownList(list), got)
		}
		if got {
			valid++
		}
		for i, label := range labels {
			checkFind(t, list, label)
			checkAlike(t, list, label)
			checkDrop(t, list, label)
			checkPut(t, list, variedEntry(label, i))
			checkPut(t, list, variedEntry(label, i+2))
		}
		if got := impl.LabelsOf(list); !slices.Equal(got, labelsByRule(list)) {
			t.Errorf("LabelsOf(%s) is %q", shownList(list), got)
		}
	}
	// None, 5 lists of one, and those of two and three of the four labels with
	// valid entries, of which the first has two.
	if want := 1 + 5 + (2*3 + 3) + (2*3 + 1); valid != want {
		t.Errorf("%d lists are valid contents, want %d", valid, want)
	}
}

func TestFindEntry(t *testing.T) {
	list := []impl.Entry{entryOf("mail", 1, 1), entryOf("ann", 9, -7), entryOf("mail", 1, 2), {}, entryOf("A/b", 1, 3), entryOf("", 1, 4), entryOf("ann", 1, 5), entryOf("\xff", 0, 0, "x"), entryOf("sh0p", 1, 6), entryOf("abcdefghi", 1, 8)}
	for _, c := range []struct {
		label string
		want  int
	}{
		{"mail", 0}, {"ann", 1}, {"", 3}, {"A/b", 4}, {"\xff", 7}, {"sh0p", 8}, {"abcdefghi", 9},
		{"zoo", -1}, {"shop", -1}, {"mai1", -1}, {"ma-il", -1}, {"Mail", -1}, {"mai", -1}, {"maill", -1}, {"a/b", -1}, {"x", -1}, {"\xfe", -1}, {"\ufffd", -1}, {"\x00", -1}, {"abcdefgh", -1}, {"-", -1}, {"mail ", -1},
	} {
		if got := impl.FindEntry(list, c.label); got != c.want {
			t.Errorf("FindEntry of %q is %d, want %d", c.label, got, c.want)
		}
		if impl.FindEntry(nil, c.label) != -1 || impl.FindEntry([]impl.Entry{}, c.label) != -1 {
			t.Errorf("%q is found in an empty list", c.label)
		}
	}
}

// Lists of any order, valid contents or not, go by their own order.
func TestAnyLists(t *testing.T) {
	lists := slices.Concat(anyLists(), validContents()[:60], brokenContents()[:60])
	labels := slices.Concat(labelsAndOthers(), entryLabels, zoneLabels(), []string{"s-h-0-p", "5hop", "sho", "shopp", "a-0", "11111111", "abcdefgh", "abcdef9h"})
	for _, list := range lists {
		if got := impl.LabelsOf(list); !slices.Equal(got, labelsByRule(list)) {
			t.Errorf("LabelsOf(%s) is %.60q", shownList(list), got)
		}
		if got := impl.AreEntries(list); got != areEntriesByRule(list) {
			t.Errorf("AreEntries(%s) is %v", shownList(list), got)
		}
		for _, label := range labels {
			checkFind(t, list, label)
			checkAlike(t, list, label)
		}
	}
}

func TestLabelsOf(t *testing.T) {
	for _, c := range []struct {
		list []impl.Entry
		want []string
	}{
		{nil, nil}, {[]impl.Entry{}, nil}, {[]impl.Entry{entryOf("ann", 1, 7)}, []string{"ann"}}, {[]impl.Entry{entryOf("ann", 1, 7), entryOf("bob", 3, 8, "x", "y")}, []string{"ann", "bob"}}, {[]impl.Entry{{}}, []string{""}}, {[]impl.Entry{{}, {}}, []string{"", ""}},
		{[]impl.Entry{entryOf("z", 1, 7), entryOf("a", 1, 7), entryOf("m", 1, 7)}, []string{"z", "a", "m"}}, {[]impl.Entry{entryOf("a", 1, 7), entryOf("a", 1, 7), entryOf("b", 2, 7), entryOf("a", 3, 7)}, []string{"a", "a", "b", "a"}}, {[]impl.Entry{entryOf("\xff", -1, -1), entryOf("A B", 1, 7, "x"), entryOf("\u00e9\x00", 1, 7)}, []string{"\xff", "A B", "\u00e9\x00"}},
	} {
		if got := impl.LabelsOf(c.list); !slices.Equal(got, c.want) {
			t.Errorf("LabelsOf(%s) is %q, want %q", shownList(c.list), got, c.want)
		}
	}
}

func TestAlikeIn(t *testing.T) {
	list := variedEntries([]string{"0", "5-hop", "5h0p", "ann", "ma-il", "mai1", "mail", "o", "s-h-0-p", "sh0p", "shop", "shops"}, 0)
	mixed := []impl.Entry{entryOf("shop", 1, 7), entryOf("Shop", 1, 7), entryOf("sh0p", 9, -7, "x"), entryOf("shop-", 1, 7), entryOf("5hop", 1, 7), entryOf("shop", 2, 8), entryOf("sh0p", 1, 7), entryOf("-", 1, 7), {}}
	for _, c := range []struct {
		list  []impl.Entry
		label string
		want  []string
	}{
		{list, "shop", []string{"5-hop", "5h0p", "s-h-0-p", "sh0p"}}, {list, "sh0p", []string{"5-hop", "5h0p", "s-h-0-p", "shop"}}, {list, "s-hop", []string{"5-hop", "5h0p", "s-h-0-p", "sh0p", "shop"}}, {list, "5h-0p", []string{"5-hop", "5h0p", "s-h-0-p", "sh0p", "shop"}},
		{list, "mail", []string{"ma-il", "mai1"}}, {list, "mai1", []string{"ma-il", "mail"}}, {list, "ma-i1", []string{"ma-il", "mai1", "mail"}}, {list, "0", []string{"o"}}, {list, "o", []string{"0"}}, {list, "5hops", []string{"shops"}},
		{list, "ann", nil}, {list, "a-nn", []string{"ann"}}, {list, "an", nil}, {list, "sho", nil}, {list, "zoo", nil}, {list, "00", nil}, {list, "oo", nil}, {list, "shops", nil},
		// A text that is no label looks like nothing.
		{list, "", nil}, {list, "-", nil}, {list, "shop-", nil}, {list, "-shop", nil}, {list, "SHOP", nil}, {list, "O", nil}, {list, "s-h-o--p-", nil}, {list, "s--h--0--p", nil}, {list, "sh\x00p", nil}, {list, "sh\xffp", nil}, {list, "0-", nil}, {list, "mail\n", nil},
		// The list need not be valid contents: its labels come in its order.
		{mixed, "shop", []string{"sh0p", "5hop", "sh0p"}}, {mixed, "sh0p", []string{"shop", "5hop", "shop"}}, {mixed, "5-h0p", []string{"shop", "sh0p", "5hop", "shop", "sh0p"}}, {mixed, "Shop", nil}, {mixed, "shop-", nil}, {mixed, "-", nil}, {mixed, "", nil},
		{nil, "shop", nil}, {[]impl.Entry{}, "shop", nil}, {nil, "", nil}, {[]impl.Entry{{}}, "", nil}, {[]impl.Entry{entryOf("shop", 1, 7)}, "shop", nil},
	} {
		if got := impl.AlikeIn(c.list, c.label); !slices.Equal(got, c.want) {
			t.Errorf("AlikeIn(%s, %q) is %q, want %q", shownList(c.list), c.label, got, c.want)
		}
	}
}

func checkSameEntries(t *testing.T, a []impl.Entry, b []impl.Entry, want bool) {
	t.Helper()
	if impl.SameEntries(a, b) != want || impl.SameEntries(b, a) != want {
		t.Errorf("%s and %s: SameEntries is %v, %v", shownList(a), shownList(b), impl.SameEntries(a, b), impl.SameEntries(b, a))
	}
}

func TestSameEntries(t *testing.T) {
	ann, bob := entryOf("ann", 1, 7), entryOf("bob", 3, 8, "x", "y")
	for _, c := range []struct {
		a, b []impl.Entry
		want bool
	}{
		{nil, nil, true}, {nil, []impl.Entry{}, true}, {[]impl.Entry{}, []impl.Entry{}, true}, {[]impl.Entry{ann}, []impl.Entry{ann}, true}, {[]impl.Entry{ann, bob}, []impl.Entry{ann, entryOf("bob", 3, 8, "x", "y")}, true},
		// Path nil and empty.
		{[]impl.Entry{ann}, []impl.Entry{{Label: "ann", Kind: 1, Value: 7, Path: []string{}}}, true}, {[]impl.Entry{{}}, []impl.Entry{{Path: []string{}}}, true}, {[]impl.Entry{{}}, []impl.Entry{{Path: []string{""}}}, false},
		// Entries with the same leaf.
		{[]impl.Entry{impl.ValueEntry("ann", 7)}, []impl.Entry{impl.ZoneEntry("ann", 7-1000003+modulus)}, false}, {[]impl.Entry{bob, entryOf("ann", 2, 0)}, []impl.Entry{bob, entryOf("ann", 2, modulus)}, false},
		// Another number of entries.
		{nil, []impl.Entry{{}}, false}, {[]impl.Entry{}, []impl.Entry{ann}, false}, {[]impl.Entry{ann}, []impl.Entry{ann, ann}, false}, {[]impl.Entry{ann, bob}, []impl.Entry{ann}, false}, {[]impl.Entry{ann, bob}, []impl.Entry{bob}, false}, {[]impl.Entry{ann, bob}, []impl.Entry{ann, bob, {}}, false},
		// Another order.
		{[]impl.Entry{ann, bob}, []impl.Entry{bob, ann}, false}, {[]impl.Entry{ann, bob, ann}, []impl.Entry{ann, ann, bob}, false}, {[]impl.Entry{bob, ann}, []impl.Entry{bob, ann}, true}, {[]impl.Entry{ann, ann}, []impl.Entry{ann, ann}, true},
		// The lists need not be valid contents.
		{[]impl.Entry{entryOf("A", 9, -5, ""), {}}, []impl.Entry{entryOf("A", 9, -5, ""), {}}, true}, {[]impl.Entry{entryOf("A", 9, -5, ""), {}}, []impl.Entry{entryOf("A", 9, -5), {}}, false}, {[]impl.Entry{entryOf("\xff", 1, 7)}, []impl.Entry{entryOf("\ufffd", 1, 7)}, false}, {[]impl.Entry{entryOf("0", 1, 7)}, []impl.Entry{entryOf("o", 1, 7)}, false},
	} {
		checkSameEntries(t, c.a, c.b, c.want)
	}
}

// Each entry of a list in turn has one field changed.
func TestSameEntriesWithOneFieldChanged(t *testing.T) {
	lists := slices.Concat(validContents()[:40], fullContents()[:4], [][]impl.Entry{someEntries()[:40], {entryOf("A", -1, math.MinInt, "", "x"), {}, entryOf("\xff", 0, 0)}})
	for _, list := range lists {
		checkSameEntries(t, list, slices.Clone(list), true)
		for i, e := range list {
			for _, other := range changedEntries(e) {
				checkSameEntries(t, list, replaced(list, i, other), false)
			}
			checkSameEntries(t, list, slices.Delete(slices.Clone(list), i, i+1), false)
			checkSameEntries(t, list, with(list, i, e), false)
			if i > 0 {
				checkSameEntries(t, list, swapped(list, 0, i), equalByRule(list[0], e))
			}
		}
	}
}

func TestSameEntriesOfAllPairs(t *testing.T) {
	lists := smallLists()
	for _, a := range lists {
		for _, b := range lists[:200] {
			if got := impl.SameEntries(a, b); got != sameByRule(a, b) {
				t.Errorf("SameEntries(%s, %s) is %v", shownList(a), shownList(b), got)
			}
		}
	}
}

// spareEntries returns list with spare capacity, as has the Path of each of its
// entries, and the whole memory behind it.
func spareEntries(list []impl.Entry) ([]impl.Entry, []impl.Entry) {
	whole := slices.Concat(list, slices.Repeat([]impl.Entry{entryOf("spare", -1, -12345, "s", "p")}, 15))
	for i := range whole {
		whole[i].Path, _ = spareStrings(whole[i].Path)
	}
	return whole[:len(list)], whole
}

// wholeEntries returns a copy of list with all that each Path reaches.
func wholeEntries(list []impl.Entry) []impl.Entry {
	whole := []impl.Entry{}
	for _, e := range list {
		whole = append(whole, entryOf(e.Label, e.Kind, e.Value, slices.Clone(e.Path[:cap(e.Path)])...))
	}
	return whole
}

// overwriteEntries changes everything that the result reaches.
func overwriteEntries(list []impl.Entry) {
	list = list[:cap(list)]
	for i := range list {
		overwriteStrings(list[i].Path)
		list[i].Label += "-changed"
		list[i].Kind += 10
		list[i].Value -= 1000
		list[i].Path = append(list[i].Path, "more")
	}
}

// argumentLists are lists with which every result is possible.
func argumentLists() [][]impl.Entry {
	return slices.Concat(smallLists(), validContents()[:80], fullContents(), brokenContents()[:400], [][]impl.Entry{nil, {}, someEntries()[:30]})
}

func TestZoneFunctionsLeaveTheirArguments(t *testing.T) {
	for n, start := range argumentLists() {
		labels := append(labelsByRule(start), "a", "new", "zzzzzzzz", "", "A")
		for i, label := range labels[max(0, len(labels)-8):] {
			list, whole := spareEntries(start)
			e := variedEntry(label, n+i)
			if i%3 == 0 {
				e = entryOf(label, 3, 7, "x", "Y")
			}
			one, oneWhole := spareEntries([]impl.Entry{e})
			before, oneBefore := wholeEntries(whole), wholeEntries(oneWhole)
			impl.AreEntries(list)
			impl.FindEntry(list, label)
			impl.SameEntries(list, whole)
			impl.SameEntries(whole, list)
			put, _ := impl.PutEntry(list, one[0])
			dropped, _ := impl.DropEntry(list, label)
			overwriteEntries(put)
			overwriteEntries(dropped)
			overwriteStrings(impl.LabelsOf(list))
			overwriteStrings(impl.AlikeIn(list, label))
			if !sameByRule(list, start) || !sameByRule(wholeEntries(whole), before) {
				t.Errorf("a function wrote into %s or its spare capacity, or shares memory with it", shownList(start))
			}
			if !equalByRule(one[0], e) || !sameByRule(wholeEntries(oneWhole), oneBefore) {
				t.Errorf("a function wrote into %s or its spare capacity, or shares memory with it", shown(e))
			}
		}
	}
}

// What is done to an argument afterwards does not reach a result.
func TestContentsKeepTheirEntries(t *testing.T) {
	for n, start := range argumentLists() {
		labels := append(labelsByRule(start), "a", "new")
		for i, label := range labels[max(0, len(labels)-6):] {
			list, whole := spareEntries(start)
			e := variedEntry(label, n+i)
			one, oneWhole := spareEntries([]impl.Entry{e})
			wantPut, _ := putByRule(start, e)
			wantDropped, _ := dropByRule(start, label)
			wantAlike := alikeByRule(start, label)
			put, _ := impl.PutEntry(list, one[0])
			dropped, _ := impl.DropEntry(list, label)
			labels, alike := impl.LabelsOf(list), impl.AlikeIn(list, label)
			overwriteEntries(whole)
			overwriteEntries(oneWhole)
			if !sameByRule(put, wantPut) || !sameByRule(dropped, wantDropped) || !slices.Equal(labels, labelsByRule(start)) || !slices.Equal(alike, wantAlike) {
				t.Errorf("a result for %s and %s changed with its arguments", shownList(start), shown(e))
			}
		}
	}
}

// Two calls with the same arguments return memory of their own each.
func TestResultsOfContentsAreTheirOwn(t *testing.T) {
	for n, list := range argumentLists() {
		e := variedEntry("m", n)
		label := "m"
		if len(list) > 0 {
			label = list[n%len(list)].Label
		}
		wantPut, _ := putByRule(list, e)
		wantDropped, _ := dropByRule(list, label)
		put, _ := impl.PutEntry(list, e)
		dropped, _ := impl.DropEntry(list, label)
		labels, alike := impl.LabelsOf(list), impl.AlikeIn(list, label)
		again, _ := impl.PutEntry(list, e)
		overwriteEntries(again)
		again, _ = impl.DropEntry(list, label)
		overwriteEntries(again)
		overwriteStrings(impl.LabelsOf(list))
		overwriteStrings(impl.AlikeIn(list, label))
		if !sameByRule(put, wantPut) || !sameByRule(dropped, wantDropped) || !slices.Equal(labels, labelsByRule(list)) || !slices.Equal(alike, alikeByRule(list, label)) {
			t.Errorf("two results for %s share memory", shownList(list))
		}
	}
}

// Entries that share one Path come back with a Path each.
func TestPathsOfOneResultAreTheirOwn(t *testing.T) {
	path := []string{"x", "y", "z"}
	moved := func(label string, n int) impl.Entry { return entryOf(label, 3, 7, path[:n]...) }
	valid := []impl.Entry{moved("a", 3), moved("b", 2), moved("m", 3), moved("z", 1)}
	notValid := []impl.Entry{moved("b", 3), moved("a", 2), moved("a", 3)}
	results := [][]impl.Entry{}
	for _, list := range [][]impl.Entry{valid, notValid} {
		for _, e := range []impl.Entry{moved("b", 3), moved("c", 3), moved("C", 3)} {
			put, _ := impl.PutEntry(list, e)
			dropped, _ := impl.DropEntry(list, e.Label)
			results = append(results, put, dropped)
		}
	}
	for _, list := range results {
		want := wholeEntries(list)
		for i := range list {
			overwriteStrings(list[i].Path)
			overwriteStrings(want[i].Path)
			for j, e := range list {
				if !slices.Equal(e.Path, want[j].Path[:len(e.Path)]) {
					t.Fatalf("entries %d and %d of a result of %s share their Path", i, j, shownList(list))
				}
			}
		}
	}
	if !slices.Equal(path, []string{"x", "y", "z"}) {
		t.Errorf("the Path of the arguments is %q", path)
	}
}

// The order of a map is another one in each call, but no result is.
func TestContentsAreTheSameInEachCall(t *testing.T) {
	list := fullContents()[0]
	for n := range 300 {
		e := variedEntry(list[n%len(list)].Label, n)
		checkPut(t, list, e)
		checkDrop(t, list, e.Label)
	}
}

// Every function returns for arguments of any size.
func TestLongContents(t *testing.T) {
	long := strings.Repeat("abc\xff", 20000)
	path := slices.Repeat([]string{"a", "", long[:300]}, 500)
	many := slices.Repeat([]impl.Entry{entryOf("a", 1, 7), entryOf("b", 3, 7, "x"), entryOf(long, 1, 7)}, 20000)
	for _, list := range [][]impl.Entry{many, {entryOf(long, 1, 7)}, {entryOf("a", 3, 7, path...)}, {entryOf(long, math.MinInt, math.MaxInt, path...)}, slices.Repeat([]impl.Entry{entryOf(long, 1, 7, path...)}, 13)} {
		if impl.AreEntries(list) || !impl.SameEntries(list, list) || impl.SameEntries(list, list[1:]) {
			t.Errorf("a list of %d entries", len(list))
		}
		if got := impl.LabelsOf(list); !slices.Equal(got, labelsByRule(list)) {
			t.Errorf("the labels of %d entries are %d", len(list), len(got))
		}
		for _, e := range []impl.Entry{entryOf("new", 1, 7), entryOf(long, 1, 7), entryOf("a", 3, 7, path...)} {
			checkPut(t, list, e)
			checkDrop(t, list, e.Label)
			checkFind(t, list, e.Label)
			checkAlike(t, list, e.Label)
		}
	}
	full := fullContents()[0]
	for _, e := range []impl.Entry{entryOf(long, 1, 7), entryOf("a", 3, 7, path...), entryOf("a", 1, 7, path...)} {
		checkPut(t, full, e)
		checkDrop(t, full, e.Label)
		checkFind(t, full, e.Label)
		checkAlike(t, full, e.Label)
	}
}
