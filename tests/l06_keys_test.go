package tests

import (
	"math"
	"slices"
	"testing"

	"loop.example/g00588/impl"
)

// edgeSetKeys are keys at the limits of a set and of an int; the first three
// and the last four are no keys of a set.
var edgeSetKeys = []int{math.MinInt, -1, 0, 1, 2, 50, 98, 99, 100, 101, math.MaxInt - 1, math.MaxInt}

// edgeNeeds are numbers of signers at the limits of sets of all sizes.
var edgeNeeds = []int{math.MinInt, -4, -1, 0, 1, 2, 3, 4, 5, 6, math.MaxInt}

// heldKeys are keys that somebody may hold, in any order and more than once.
var heldKeys = []int{2, 5, 9, 3, 0, 100}

// setOf returns a set of keys that may be valid or not.
func setOf(need int, list ...int) impl.Keys {
	return impl.Keys{List: list, Need: need}
}

// intLists returns all lists of at most n of the given elements.
func intLists(n int, elements []int) [][]int {
	all := [][]int{{}}
	for last := all; n > 0; n-- {
		longer := [][]int{}
		for _, list := range last {
			for _, v := range elements {
				longer = append(longer, append(slices.Clone(list), v))
			}
		}
		all = append(all, longer...)
		last = longer
	}
	return all
}

// visitKeys calls visit for all valid sets with keys from 1 to last.
func visitKeys(last int, visit func(k impl.Keys)) {
	var extend func(list []int, least int)
	extend = func(list []int, least int) {
		for need := 1; need <= len(list); need++ {
			visit(setOf(need, list...))
		}
		if len(list) == 4 {
			return
		}
		for key := least; key <= last; key++ {
			extend(append(slices.Clone(list), key), key+1)
		}
	}
	extend(nil, 1)
}

// isKeysByRule follows the document's words.
func isKeysByRule(k impl.Keys) bool {
	if len(k.List) < 1 || len(k.List) > 4 || k.Need < 1 || k.Need > len(k.List) {
		return false
	}
	ordered := slices.Compact(slices.Sorted(slices.Values(k.List)))
	return slices.Equal(ordered, k.List) && ordered[0] >= 1 && ordered[len(ordered)-1] <= 99
}

func keysIntsByRule(k impl.Keys) []int {
	return slices.Concat([]int{k.Need, len(k.List)}, k.List)
}

// canSignByRule marks what is held, and then looks at each key of the set.
func canSignByRule(k impl.Keys, held []int) bool {
	marked := map[int]bool{}
	for _, key := range held {
		marked[key] = true
	}
	signers := 0
	for _, key := range k.List {
		if marked[key] {
			signers++
		}
	}
	return isKeysByRule(k) && signers >= k.Need
}

// brokenKeys are sets that are not valid, each for a reason of its own.
func brokenKeys() []impl.Keys {
	broken := []impl.Keys{
		{}, {List: []int{}}, setOf(1), setOf(-1), {Need: 1, List: []int{}},
		setOf(1, 1, 2, 3, 4, 5), setOf(4, 1, 2, 3, 4, 5), setOf(5, 1, 2, 3, 4, 5), setOf(1, 95, 96, 97, 98, 99), setOf(5, 7, 7, 7, 7, 7),
		setOf(1, slices.Repeat([]int{7}, 5000)...), setOf(5000, slices.Repeat([]int{7}, 5000)...),
		setOf(1, 2, 1), setOf(2, 2, 1), setOf(1, 7, 7), setOf(2, 7, 7), setOf(2, 99, 1), setOf(3, 1, 3, 2), setOf(4, 4, 3, 2, 1),
	}
	for _, list := range [][]int{{7}, {1, 99}, {2, 5, 9}, {1, 2, 98, 99}} {
		for _, need := range edgeNeeds {
			if need < 1 || need > len(list) {
				broken = append(broken, setOf(need, list...))
			}
		}
		for i := range list {
			for _, key := range []int{math.MinInt, -1, 0, 100, 101, math.MaxInt} {
				changed := slices.Clone(list)
				changed[i] = key
				broken = append(broken, setOf(1, changed...), setOf(len(list), changed...))
			}
		}
	}
	return broken
}

// someKeys are valid sets of all sizes, and others.
func someKeys() []impl.Keys {
	all := brokenKeys()
	for _, list := range [][]int{{1}, {2}, {99}, {1, 2}, {1, 99}, {98, 99}, {1, 2, 3}, {2, 5, 9}, {97, 98, 99}, {1, 2, 3, 4}, {1, 2, 98, 99}, {96, 97, 98, 99}} {
		for need := 1; need <= len(list); need++ {
			all = append(all, setOf(need, list...))
		}
	}
	return all
}

// spareKeys returns k with spare capacity, and the whole memory behind it.
func spareKeys(k impl.Keys) (impl.Keys, []int) {
	list, whole := spareInts(k.List)
	return impl.Keys{List: list, Need: k.Need}, whole
}

// overwriteInts changes everything that the result reaches.
func overwriteInts(values []int) {
	values = values[:cap(values)]
	for i := range values {
		values[i] -= 1000
	}
}

func TestKeyLimits(t *testing.T) {
	if impl.MaxKey != 99 || impl.MaxKeys != 4 {
		t.Errorf("MaxKey is %d and MaxKeys is %d", impl.MaxKey, impl.MaxKeys)
	}
}

// This is promise 6, for every pair of valid sets: the digests of all of them
// are sorted, so that equal ones would be neighbours.
func TestKeysAreToldApartByTheirDigests(t *testing.T) {
	digests, outside := []uint32{}, 0
	visitKeys(impl.MaxKey, func(k impl.Keys) {
		d := impl.KeysDigest(k)
		if d < 0 || d >= impl.Modulus {
			outside++
		}
		digests = append(digests, uint32(d))
	})
	if outside > 0 {
		t.Fatalf("%d digests are outside of their range", outside)
	}
	// Of the 99 keys, there are so many choices of n, each with n values of Need.
	if want := 99 + 2*4851 + 3*156849 + 4*3764376; len(digests) != want {
		t.Fatalf("%d valid sets have a digest, want %d", len(digests), want)
	}
	slices.Sort(digests)
	if n := len(digests) - len(slices.Compact(digests)); n != 0 {
		t.Errorf("%d valid sets have the digest of another one", n)
	}
}

func TestDigestsOfKeysThatDifferALittle(t *testing.T) {
	for _, c := range []struct {
		name string
		a, b impl.Keys
	}{
		{"one key", setOf(1, 7), setOf(1, 8)}, {"the first key", setOf(2, 1, 5, 9), setOf(2, 2, 5, 9)}, {"a key between", setOf(2, 1, 5, 9), setOf(2, 1, 6, 9)}, {"the last key", setOf(4, 1, 2, 3, 98), setOf(4, 1, 2, 3, 99)},
		{"a key more", setOf(1, 7), setOf(1, 7, 8)}, {"a key more in front", setOf(1, 7), setOf(1, 6, 7)}, {"a key more between", setOf(2, 1, 2, 4), setOf(2, 1, 2, 3, 4)}, {"three keys more", setOf(1, 1), setOf(1, 1, 2, 3, 4)},
		{"Need alone", setOf(1, 2, 5), setOf(2, 2, 5)}, {"Need of four", setOf(3, 1, 2, 98, 99), setOf(4, 1, 2, 98, 99)}, {"Need and a key", setOf(1, 1, 3), setOf(2, 1, 2)},
		{"the place of a key", setOf(1, 2, 5), setOf(1, 5, 9)}, {"the places of two keys", setOf(2, 1, 2, 3), setOf(2, 2, 3, 4)}, {"the place of a key in the same sum", setOf(1, 2, 5, 8), setOf(1, 4, 5, 6)},
		{"a key and Need", setOf(1, 2, 3), setOf(2, 1, 3)}, {"a key that is the number of keys", setOf(2, 2, 3), setOf(2, 3, 4)},
	} {
		if !impl.IsKeys(c.a) || !impl.IsKeys(c.b) {
			t.Errorf("%s: %v or %v is not valid", c.name, c.a, c.b)
		}
		if a, b := impl.KeysDigest(c.a), impl.KeysDigest(c.b); a == b {
			t.Errorf("%s: %v and %v have the digest %d", c.name, c.a, c.b, a)
		}
	}
}

func TestKeysDigest(t *testing.T) {
	if got := impl.KeysDigest(setOf(2, 2, 5, 9)); got != impl.Hash([]int{211, 2, 3, 2, 5, 9}) {
		t.Errorf("the digest of a set is %d", got)
	}
	if got := impl.KeysDigest(impl.Keys{}); got != impl.Hash([]int{211, 0, 0}) {
		t.Errorf("the digest of the zero set is %d", got)
	}
	check := func(k impl.Keys) {
		want := hashByRule(slices.Concat([]int{211}, keysIntsByRule(k)))
		if got := impl.KeysDigest(k); got != want {
			t.Errorf("KeysDigest of Need %d and %.20v is %d, want %d", k.Need, k.List, got, want)
		}
	}
	for _, k := range someKeys() {
		check(k)
	}
	for _, list := range intLists(3, edgeSetKeys) {
		for _, need := range edgeNeeds {
			check(impl.Keys{List: list, Need: need})
		}
	}
	for n := range 300 {
		check(impl.Keys{List: dataInts(n), Need: n - 150})
	}
}

// dataInts are n values of all sizes and signs, in no order.
func dataInts(n int) []int {
	values := []int{}
	for i := range n {
		values = append(values, edgeKeys[i%len(edgeKeys)]+i)
	}
	return values
}

func TestIsKeys(t *testing.T) {
	for _, list := range [][]int{{1}, {2}, {50}, {98}, {99}, {1, 2}, {1, 99}, {98, 99}, {1, 2, 3}, {1, 50, 99}, {97, 98, 99}, {1, 2, 3, 4}, {1, 2, 98, 99}, {96, 97, 98, 99}, {2, 5, 9, 33}} {
		for _, need := range edgeNeeds {
			want := need >= 1 && need <= len(list)
			if got := impl.IsKeys(setOf(need, list...)); got != want {
				t.Errorf("IsKeys of Need %d and %v is %v", need, list, got)
			}
		}
	}
	for _, k := range brokenKeys() {
		if impl.IsKeys(k) {
			t.Errorf("Need %d and %.20v are valid", k.Need, k.List)
		}
	}
}

func TestIsKeysOfAllShortLists(t *testing.T) {
	valid := 0
	for _, list := range slices.Concat(intLists(5, []int{0, 1, 2, 98, 99, 100}), intLists(4, edgeSetKeys)) {
		for _, need := range []int{-1, 0, 1, 2, 3, 4, 5, 6} {
			k := impl.Keys{List: list, Need: need}
			got := impl.IsKeys(k)
			if got != isKeysByRule(k) {
				t.Errorf("IsKeys of Need %d and %v is %v", need, list, got)
			}
			if got {
				valid++
			}
		}
	}
	if valid == 0 {
		t.Error("no set was valid")
	}
}

// Every key of a set of four is made equal to, or less than, the one before it.
func TestIsKeysOfListsOutOfOrder(t *testing.T) {
	for n := 2; n <= impl.MaxKeys; n++ {
		for i := 1; i < n; i++ {
			for _, less := range []int{0, 1, 9} {
				list := []int{10, 20, 30, 40}[:n:n]
				list[i] = list[i-1] - less
				for need := 1; need <= n; need++ {
					if impl.IsKeys(setOf(need, list...)) {
						t.Errorf("Need %d and %v are valid", need, list)
					}
				}
			}
		}
	}
}

func TestIsKeysOfAllKeysAndSizes(t *testing.T) {
	for key := -300; key <= 300; key++ {
		if got, want := impl.IsKeys(setOf(1, key)), key >= 1 && key <= 99; got != want {
			t.Errorf("IsKeys of the key %d is %v", key, got)
		}
	}
	for n := range 90 {
		list := []int{}
		for key := range n {
			list = append(list, key+1)
		}
		for _, need := range []int{1, n} {
			if got, want := impl.IsKeys(impl.Keys{List: list, Need: need}), n >= 1 && n <= 4; got != want {
				t.Errorf("IsKeys of Need %d and %d keys is %v", need, n, got)
			}
		}
	}
}

func TestKeysInts(t *testing.T) {
	for _, c := range []struct {
		k    impl.Keys
		want []int
	}{
		{setOf(2, 2, 5, 9), []int{2, 3, 2, 5, 9}}, {setOf(1, 7), []int{1, 1, 7}}, {setOf(4, 1, 2, 98, 99), []int{4, 4, 1, 2, 98, 99}},
		{impl.Keys{}, []int{0, 0}}, {impl.Keys{List: []int{}}, []int{0, 0}}, {setOf(3), []int{3, 0}}, {impl.Keys{List: []int{}, Need: -3}, []int{-3, 0}},
		{setOf(math.MinInt, math.MaxInt, math.MinInt), []int{math.MinInt, 2, math.MaxInt, math.MinInt}}, {setOf(9, 5, 5, 3, 0, -1), []int{9, 5, 5, 5, 3, 0, -1}},
	} {
		if got := impl.KeysInts(c.k); !slices.Equal(got, c.want) {
			t.Errorf("KeysInts(%v) is %v, want %v", c.k, got, c.want)
		}
	}
	for _, k := range someKeys() {
		if got, want := impl.KeysInts(k), keysIntsByRule(k); !slices.Equal(got, want) {
			t.Errorf("KeysInts of Need %d and %.20v is %.20v", k.Need, k.List, got)
		}
	}
	for n := range 300 {
		list := dataInts(n)
		if got, want := impl.KeysInts(impl.Keys{List: list, Need: -n}), slices.Concat([]int{-n, n}, list); !slices.Equal(got, want) {
			t.Errorf("KeysInts of %d keys is %.20v", n, got)
		}
	}
}

func TestHasKey(t *testing.T) {
	for _, c := range []struct {
		k    impl.Keys
		key  int
		want bool
	}{
		{setOf(2, 2, 5, 9), 2, true}, {setOf(2, 2, 5, 9), 5, true}, {setOf(2, 2, 5, 9), 9, true}, {setOf(2, 2, 5, 9), 3, false}, {setOf(2, 2, 5, 9), 1, false}, {setOf(2, 2, 5, 9), 10, false}, {setOf(1, 1, 2, 98, 99), 99, true}, {setOf(1, 1, 2, 98, 99), 1, true},
		// Need and the number of keys are no keys of the set.
		{setOf(4, 5, 6, 7, 8), 4, false}, {setOf(1, 7), 1, false}, {setOf(3), 3, false},
		{impl.Keys{}, 0, false}, {impl.Keys{}, 1, false}, {impl.Keys{List: []int{}}, 0, false},
		// The set need not be valid.
		{setOf(1, 9, 2, 5), 2, true}, {setOf(1, 9, 2, 5), 9, true}, {setOf(1, 9, 2, 5), 5, true}, {setOf(1, 9, 2, 5), 3, false}, {setOf(1, 4, 3, 2, 1), 1, true}, {setOf(1, 4, 3, 2, 1), 4, true},
		{setOf(1, 7, 7), 7, true}, {setOf(1, 7, 7), 8, false}, {setOf(1, 3, 7, 3), 3, true}, {setOf(0, 7), 7, true}, {setOf(-1, 7), 7, true}, {setOf(9, 7), 7, true}, {setOf(1, 1, 2, 3, 4, 5), 5, true}, {setOf(1, 1, 2, 3, 4, 5), 6, false},
		{setOf(1, 0), 0, true}, {setOf(1, -1), -1, true}, {setOf(1, 100), 100, true}, {setOf(1, math.MinInt, math.MaxInt), math.MaxInt, true}, {setOf(1, math.MinInt, math.MaxInt), math.MinInt, true}, {setOf(1, math.MinInt), math.MaxInt, false}, {setOf(1, 0), 1 << 32, false}, {setOf(1, -7), 7, false},
	} {
		if got := impl.HasKey(c.k, c.key); got != c.want {
			t.Errorf("HasKey(%v, %d) is %v", c.k, c.key, got)
		}
	}
}

// A key is put at each place of long lists that do not hold it.
func TestHasKeyAtAllPlaces(t *testing.T) {
	for n := range 60 {
		for _, key := range edgeSetKeys {
			list := slices.Repeat([]int{77}, n)
			if impl.HasKey(impl.Keys{List: list, Need: key}, key) {
				t.Errorf("%d keys 77 hold %d", n, key)
			}
			for i := range n + 1 {
				with := slices.Insert(slices.Clone(list), i, key)
				if !impl.HasKey(impl.Keys{List: with, Need: 1}, key) {
					t.Errorf("%v does not hold %d", with, key)
				}
			}
		}
	}
}

func TestCanSign(t *testing.T) {
	two, all := setOf(2, 2, 5, 9), setOf(3, 2, 5, 9)
	for _, c := range []struct {
		k    impl.Keys
		held []int
		want bool
	}{
		{two, []int{2, 5}, true}, {two, []int{9, 1, 2}, true}, {two, []int{5, 9}, true}, {two, []int{9, 5, 2}, true}, {two, []int{1, 1, 9, 3, 2, 4}, true}, {all, []int{9, 2, 5}, true}, {setOf(1, 7), []int{7}, true}, {setOf(1, 1, 99), []int{99}, true}, {setOf(4, 1, 2, 98, 99), []int{99, 98, 2, 1}, true},
		{two, nil, false}, {two, []int{}, false}, {two, []int{2}, false}, {two, []int{1, 3, 4}, false}, {all, []int{2, 5}, false}, {all, []int{2, 9, 8}, false}, {setOf(1, 7), []int{1}, false}, {setOf(1, 7), nil, false}, {setOf(4, 1, 2, 98, 99), []int{1, 2, 99}, false},
		// A key that is held twice counts once.
		{two, []int{2, 2, 3}, false}, {two, []int{5, 5}, false}, {two, []int{9, 9, 9, 9, 9}, false}, {two, []int{2, 2, 5}, true}, {two, []int{5, 2, 5, 2}, true}, {all, []int{2, 2, 5, 5}, false}, {all, []int{2, 2, 5, 5, 9}, true}, {setOf(4, 1, 2, 3, 4), []int{1, 2, 3, 3}, false},
		{setOf(1, 7), []int{0, -7, 100, math.MinInt, math.MaxInt}, false}, {setOf(1, 7), []int{0, -7, 100, 7}, true}, {two, slices.Repeat([]int{2, 3}, 5000), false}, {two, append(slices.Repeat([]int{2, 3}, 5000), 9), true},
		// A set that is not valid never signs.
		{impl.Keys{}, nil, false}, {impl.Keys{}, []int{1}, false}, {setOf(0, 7), []int{7}, false}, {setOf(-1, 7), []int{7}, false}, {setOf(2, 7), []int{7}, false}, {setOf(2, 7), []int{7, 8}, false}, {setOf(2, 7, 7), []int{7, 7}, false}, {setOf(1, 7, 7), []int{7}, false}, {setOf(1, 9, 5), []int{5, 9}, false},
		{setOf(1, 0), []int{0}, false}, {setOf(1, 100), []int{100}, false}, {setOf(1, -1), []int{-1}, false}, {setOf(1, 0, 5), []int{5}, false}, {setOf(1, 1, 2, 3, 4, 5), []int{1, 2, 3, 4, 5}, false},
	} {
		if got := impl.CanSign(c.k, c.held); got != c.want {
			t.Errorf("CanSign(%v, %.20v) is %v", c.k, c.held, got)
		}
	}
}

func TestCanSignFollowsTheRule(t *testing.T) {
	sets := []impl.Keys{}
	for _, list := range [][]int{{}, {2}, {9}, {2, 5}, {3, 9}, {2, 5, 9}, {2, 3, 5, 9}, {5, 2}, {2, 2}, {0, 2}, {2, 100}, {2, 3, 5, 9, 10}} {
		for need := -1; need <= 6; need++ {
			sets = append(sets, setOf(need, list...))
		}
	}
	for _, held := range intLists(5, heldKeys) {
		for _, k := range sets {
			if got, want := impl.CanSign(k, held), canSignByRule(k, held); got != want {
				t.Errorf("CanSign(%v, %v) is %v", k, held, got)
			}
		}
	}
}

func TestInvalidKeysNeverSign(t *testing.T) {
	everything := []int{}
	for key := -10; key <= 110; key++ {
		everything = append(everything, key)
	}
	everything = append(everything, edgeSetKeys...)
	for _, k := range brokenKeys() {
		for _, held := range [][]int{nil, {}, k.List, everything, slices.Concat(k.List, everything, k.List)} {
			if impl.CanSign(k, held) {
				t.Errorf("Need %d and %.20v can sign with %.20v", k.Need, k.List, held)
			}
		}
	}
}

func TestOneKey(t *testing.T) {
	for key := -300; key <= 300; key++ {
		checkOneKey(t, key)
	}
	for _, key := range slices.Concat(edgeSetKeys, edgeKeys) {
		checkOneKey(t, key)
	}
}

func checkOneKey(t *testing.T, key int) {
	t.Helper()
	k := impl.OneKey(key)
	if !slices.Equal(k.List, []int{key}) || k.Need != 1 {
		t.Errorf("OneKey(%d) is %v", key, k)
	}
	good := key >= 1 && key <= 99
	if impl.IsKeys(k) != good || impl.CanSign(k, []int{key}) != good || !impl.HasKey(k, key) {
		t.Errorf("OneKey(%d): IsKeys is %v, CanSign is %v, HasKey is %v", key, impl.IsKeys(k), impl.CanSign(k, []int{key}), impl.HasKey(k, key))
	}
}

func TestEqualKeys(t *testing.T) {
	for _, c := range []struct {
		a, b impl.Keys
		want bool
	}{
		{impl.Keys{}, impl.Keys{}, true}, {impl.Keys{}, impl.Keys{List: []int{}}, true}, {impl.Keys{List: []int{}, Need: 3}, setOf(3), true}, {setOf(2, 2, 5, 9), setOf(2, 2, 5, 9), true}, {impl.OneKey(7), setOf(1, 7), true},
		// The sets need not be valid.
		{setOf(-1, 9, 9, 0), setOf(-1, 9, 9, 0), true}, {setOf(math.MinInt, math.MaxInt), setOf(math.MinInt, math.MaxInt), true}, {setOf(1, slices.Repeat([]int{7}, 5000)...), setOf(1, slices.Repeat([]int{7}, 5000)...), true},
		{setOf(1, 2, 5), setOf(2, 2, 5), false}, {setOf(0, 2, 5), setOf(-1, 2, 5), false}, {impl.Keys{}, setOf(1), false}, {impl.Keys{List: []int{}}, setOf(-1), false}, {setOf(0, 2), setOf(1<<32, 2), false},
		{setOf(1, 2, 5, 9), setOf(1, 3, 5, 9), false}, {setOf(1, 2, 5, 9), setOf(1, 2, 6, 9), false}, {setOf(1, 2, 5, 9), setOf(1, 2, 5, 8), false}, {setOf(1, 7), setOf(1, -7), false}, {setOf(1, 0), setOf(1, 1<<32), false},
		{setOf(1, 2, 5), setOf(1, 2), false}, {setOf(1, 2, 5), setOf(1, 5), false}, {setOf(1, 2, 5), setOf(1, 2, 5, 9), false}, {setOf(1, 2, 5), setOf(1, 2, 5, 0), false}, {setOf(0), setOf(0, 0), false}, {setOf(1), setOf(1, 1), false}, {setOf(1, slices.Repeat([]int{7}, 5000)...), setOf(1, slices.Repeat([]int{7}, 5001)...), false},
		// The same keys in another order, or another number of times.
		{setOf(1, 2, 5), setOf(1, 5, 2), false}, {setOf(1, 2, 5), setOf(1, 2, 2, 5), false}, {setOf(1, 1, 2), setOf(2, 1, 1), false},
	} {
		for _, got := range []bool{impl.EqualKeys(c.a, c.b), impl.EqualKeys(c.b, c.a)} {
			if got != c.want {
				t.Errorf("%.20v and %.20v: EqualKeys is %v", c.a, c.b, got)
			}
		}
	}
	all := someKeys()
	for _, list := range intLists(3, []int{1, 2, 5}) {
		all = append(all, setOf(1, list...), setOf(2, list...))
	}
	for _, a := range all {
		for _, b := range all {
			if got, want := impl.EqualKeys(a, b), a.Need == b.Need && slices.Equal(a.List, b.List); got != want {
				t.Errorf("EqualKeys(%.20v, %.20v) is %v", a, b, got)
			}
		}
	}
}

func TestKeysFunctionsLeaveTheirArguments(t *testing.T) {
	for _, start := range someKeys() {
		k, whole := spareKeys(start)
		held, heldWhole := spareInts(append(slices.Clone(start.List), 9, 2, 2, 0, -1))
		before, heldBefore := slices.Clone(whole), slices.Clone(heldWhole)
		impl.IsKeys(k)
		impl.KeysInts(k)
		impl.KeysDigest(k)
		impl.HasKey(k, 5)
		impl.HasKey(k, -12345)
		impl.CanSign(k, held)
		impl.CanSign(k, k.List)
		impl.CanSign(k, nil)
		impl.EqualKeys(k, impl.Keys{List: held, Need: k.Need})
		impl.EqualKeys(k, k)
		if !slices.Equal(whole, before) || !slices.Equal(heldWhole, heldBefore) {
			t.Errorf("a function wrote into Need %d and %.20v, into what is held, or into spare capacity", start.Need, start.List)
		}
	}
}

func TestResultsOfKeysAreTheirOwn(t *testing.T) {
	for _, start := range someKeys() {
		k, whole := spareKeys(start)
		before := slices.Clone(whole)
		values, again := impl.KeysInts(k), impl.KeysInts(k)
		overwriteInts(values)
		if !slices.Equal(whole, before) {
			t.Errorf("KeysInts of Need %d and %.20v shares memory with its argument", start.Need, start.List)
		}
		if !slices.Equal(again, keysIntsByRule(start)) {
			t.Errorf("two results of KeysInts of Need %d and %.20v share memory", start.Need, start.List)
		}
	}
	for _, key := range edgeSetKeys {
		k, again := impl.OneKey(key), impl.OneKey(key)
		overwriteInts(k.List)
		if !impl.EqualKeys(again, setOf(1, key)) || !impl.EqualKeys(impl.OneKey(key), setOf(1, key)) {
			t.Errorf("two results of OneKey(%d) share memory", key)
		}
	}
}

// A result does not depend on the spare capacity of the list it was asked for.
func TestKeysWithSpareCapacity(t *testing.T) {
	for _, start := range someKeys() {
		k, _ := spareKeys(start)
		if impl.IsKeys(k) != isKeysByRule(start) || !slices.Equal(impl.KeysInts(k), keysIntsByRule(start)) || !impl.EqualKeys(k, start) || impl.HasKey(k, -12345) || impl.KeysDigest(k) != impl.KeysDigest(start) || impl.CanSign(k, start.List) != canSignByRule(start, start.List) {
			t.Errorf("Need %d and %.20v are another set with spare capacity", start.Need, start.List)
		}
	}
}
