package tests

import (
	"math"
	"slices"
	"testing"

	"loop.example/g00588/impl"
)

// messages are of several lengths and sizes; no two of them have the same tag
// by the same key of signMakers.
var messages = [][]int{
	{}, {0}, {4, 7}, {4, 8}, {5, 7}, {7, 4}, {4}, {7}, {4, 7, 0}, {0, 4, 7}, {4, 7, 4, 7}, {223}, {223, 4, 7}, {-4, -7},
	{math.MinInt, math.MaxInt}, {1, 2, 3, 4, 5, 6, 7, 8, 9, 10, 11, 12}, edgeKeys, make([]int, 300),
}

// signMakers are keys that make signatures that hold.
var signMakers = []int{1, 2, 3, 5, 9, 50, 98, 99}

// strangers are keys that make no signature that holds. Two of them have the
// same tags as the key 2, because hashes reduce what they fold.
var strangers = []int{math.MinInt, math.MinInt + 1, -modulus, 2 - modulus, -99, -2, -1, 0, 100, 101, 1000, modulus, 2 + modulus, math.MaxInt - 1, math.MaxInt}

func tagByRule(key int, message []int) int {
	return keyedByRule(key, slices.Concat([]int{223}, message))
}

func sigByRule(key int, message []int) impl.Sig {
	return impl.Sig{Key: key, Tag: tagByRule(key, message)}
}

func isSigByRule(s impl.Sig, message []int) bool {
	return s.Key >= 1 && s.Key <= 99 && s.Tag == tagByRule(s.Key, message)
}

func signByRule(held []int, k impl.Keys, message []int) []impl.Sig {
	sigs := []impl.Sig{}
	for _, key := range k.List {
		if slices.Contains(held, key) {
			sigs = append(sigs, sigByRule(key, message))
		}
	}
	return sigs
}

// goodKeys returns the keys that signed, each of them once.
func goodKeys(message []int, sigs []impl.Sig) map[int]bool {
	good := map[int]bool{}
	for _, s := range sigs {
		if isSigByRule(s, message) {
			good[s.Key] = true
		}
	}
	return good
}

// checkSigs compares everything that counts signatures with the rule, where
// good are the keys that signed.
func checkSigs(t *testing.T, k impl.Keys, message []int, sigs []impl.Sig, good map[int]bool) {
	t.Helper()
	count := 0
	for _, key := range k.List {
		if good[key] {
			count++
		}
	}
	if got := impl.CountSigs(k, message, sigs); got != count {
		t.Errorf("CountSigs(%.20v, %.20v, %.20v) is %d, want %d", k, message, sigs, got, count)
	}
	if got, want := impl.IsSigned(k, message, sigs), isKeysByRule(k) && count >= k.Need; got != want {
		t.Errorf("IsSigned(%.20v, %.20v, %.20v) is %v", k, message, sigs, got)
	}
}

// checkSigners compares SignersOf with the keys that signed.
func checkSigners(t *testing.T, message []int, sigs []impl.Sig, good map[int]bool) {
	t.Helper()
	want := []int{}
	for key := 1; key <= 99; key++ {
		if good[key] {
			want = append(want, key)
		}
	}
	if got := impl.SignersOf(message, sigs); !slices.Equal(got, want) {
		t.Errorf("SignersOf(%.20v, %.20v) is %v, want %v", message, sigs, got, want)
	}
}

// sigLists returns all lists of at most n of the given signatures.
func sigLists(n int, elements []impl.Sig) [][]impl.Sig {
	places := []int{}
	for i := range elements {
		places = append(places, i)
	}
	all := [][]impl.Sig{}
	for _, list := range intLists(n, places) {
		sigs := []impl.Sig{}
		for _, i := range list {
			sigs = append(sigs, elements[i])
		}
		all = append(all, sigs)
	}
	return all
}

// spareSigs returns sigs with spare capacity, and the whole memory behind it.
func spareSigs(sigs []impl.Sig) ([]impl.Sig, []impl.Sig) {
	whole := slices.Concat(sigs, slices.Repeat([]impl.Sig{{Key: -12345, Tag: -12345}}, 40))
	return whole[:len(sigs)], whole
}

// subsetOf returns the keys of all whose bit is set, every other one of them
// twice and the greatest first.
func subsetOf(all []int, bits int) []int {
	held := []int{}
	for i, key := range all {
		if bits>>i&1 == 1 {
			held = append(held, slices.Repeat([]int{key}, 1+i%2)...)
		}
	}
	slices.Reverse(held)
	return held
}

func TestTagOf(t *testing.T) {
	for _, c := range []struct {
		key     int
		message []int
		want    int
	}{
		{2, []int{4, 7}, 1836518506}, {9, []int{4, 7}, 183584623}, {2, nil, 960487699}, {2, []int{}, 960487699}, {2, []int{4, 8}, 1837518509}, {2, []int{7, 4}, 1816863665},
		{1, []int{0}, 1697976830}, {99, []int{-1}, 1474814447}, {0, []int{4, 7}, 774868439}, {100, []int{4, 7}, 170280614},
	} {
		if got := impl.TagOf(c.key, c.message); got != c.want {
			t.Errorf("TagOf(%d, %v) is %d, want %d", c.key, c.message, got, c.want)
		}
	}
	for _, key := range slices.Concat(edgeKeys, edgeSetKeys, signMakers, strangers) {
		for _, m := range slices.Concat(messages, hashedLists, [][]int{nil}) {
			got := impl.TagOf(key, m)
			if want := tagByRule(key, m); got != want || got != impl.KeyedHash(key, slices.Concat([]int{223}, m)) {
				t.Errorf("TagOf(%d, %.20v) is %d, want %d", key, m, got, want)
			}
		}
	}
}

func TestTagsDiffer(t *testing.T) {
	for _, key := range signMakers {
		for i, m := range messages {
			for _, other := range messages[:i] {
				if impl.TagOf(key, m) == impl.TagOf(key, other) {
					t.Errorf("the key %d has the same tag for %.20v and %.20v", key, m, other)
				}
			}
			for _, other := range signMakers {
				if (impl.TagOf(key, m) == impl.TagOf(other, m)) != (key == other) {
					t.Errorf("the keys %d and %d with the message %.20v", key, other, m)
				}
			}
		}
	}
}

func TestSignBy(t *testing.T) {
	m, k := []int{4, 7}, setOf(2, 2, 5, 9)
	for _, c := range []struct {
		held []int
		k    impl.Keys
		want []int
	}{
		{[]int{9, 2, 3}, k, []int{2, 9}}, {[]int{2, 5, 9}, k, []int{2, 5, 9}}, {[]int{9, 5, 2}, k, []int{2, 5, 9}}, {[]int{5, 9, 5, 9, 5}, k, []int{5, 9}}, {[]int{9, 9, 9, 2, 2}, k, []int{2, 9}}, {[]int{1, 5, 99}, k, []int{5}},
		{[]int{1, 3, 4, 6, 10, -2, 0, 100}, k, nil}, {nil, k, nil}, {[]int{}, k, nil}, {[]int{2}, setOf(3, 2, 5, 9), []int{2}}, {[]int{99, 98, 2, 1}, setOf(1, 1, 2, 98, 99), []int{1, 2, 98, 99}},
		{slices.Repeat([]int{9, 3}, 5000), k, []int{9}}, {append(slices.Repeat([]int{3}, 5000), 5), k, []int{5}},
		// The set need not be valid: its elements sign in its order.
		{[]int{2, 5, 9}, impl.Keys{}, nil}, {nil, impl.Keys{}, nil}, {[]int{0}, impl.Keys{List: []int{}, Need: 1}, nil}, {[]int{2, 5}, setOf(0, 2, 5), []int{2, 5}}, {[]int{2, 5}, setOf(-1, 5, 2), []int{5, 2}}, {[]int{2, 5}, setOf(9, 2, 5), []int{2, 5}},
		{[]int{2, 5, 9}, setOf(2, 9, 2, 5), []int{9, 2, 5}}, {[]int{7}, setOf(1, 7, 7), []int{7, 7}}, {[]int{7, 7, 7}, setOf(2, 7, 8, 7), []int{7, 7}}, {[]int{1, 2, 3, 4, 5}, setOf(1, 5, 1, 4, 2, 3), []int{5, 1, 4, 2, 3}},
		{[]int{0, -1, 100}, setOf(1, 100, 0, -1), []int{100, 0, -1}}, {[]int{math.MaxInt, math.MinInt}, setOf(1, math.MinInt, math.MaxInt), []int{math.MinInt, math.MaxInt}}, {[]int{2}, setOf(1, 2+modulus), nil},
	} {
		want := []impl.Sig{}
		for _, key := range c.want {
			want = append(want, sigByRule(key, m))
		}
		if got := impl.SignBy(c.held, c.k, m); !slices.Equal(got, want) {
			t.Errorf("SignBy(%.20v, %v) is %.20v, want %.20v", c.held, c.k, got, want)
		}
	}
}

func TestSignByFollowsTheRule(t *testing.T) {
	for _, m := range append(messages, nil) {
		for _, k := range someKeys() {
			k.List = k.List[:min(len(k.List), 20)]
			for _, held := range [][]int{nil, {}, {9, 5, 2, 2}, k.List, {1, 99, 7, 0, -1, 100}, {math.MaxInt, math.MinInt, 98, 2}} {
				if got, want := impl.SignBy(held, k, m), signByRule(held, k, m); !slices.Equal(got, want) {
					t.Errorf("SignBy(%v, %v, %.20v) is %v, want %v", held, k, m, got, want)
				}
			}
		}
	}
	for _, held := range intLists(4, heldKeys) {
		for _, list := range intLists(3, []int{2, 5, 9, 0}) {
			k := impl.Keys{List: list, Need: len(held) - 1}
			want := slices.DeleteFunc(slices.Clone(list), func(key int) bool { return !slices.Contains(held, key) })
			got := []int{}
			for _, s := range impl.SignBy(held, k, messages[2]) {
				got = append(got, s.Key)
			}
			if !slices.Equal(got, want) {
				t.Errorf("the keys %v of %v sign, want %v of what is held, %v", got, k, want, held)
			}
		}
	}
}

func TestIsSigBy(t *testing.T) {
	for _, m := range append(messages, nil) {
		for _, key := range signMakers {
			right := sigByRule(key, m)
			if !impl.IsSigBy(right, m) || !impl.IsSigBy(impl.Sig{Key: key, Tag: impl.TagOf(key, m)}, m) {
				t.Errorf("%v is no signature of %.20v", right, m)
			}
			for _, tag := range []int{right.Tag - 1, right.Tag + 1, right.Tag - modulus, right.Tag + modulus, -right.Tag, right.Tag + 1<<32, 0, 1, 11, math.MinInt, math.MaxInt, key, impl.KeyedHash(key, m), impl.Hash(m)} {
				if tag != right.Tag && impl.IsSigBy(impl.Sig{Key: key, Tag: tag}, m) {
					t.Errorf("the tag %d of the key %d is a signature of %.20v, whose tag is %d", tag, key, m, right.Tag)
				}
			}
			for _, other := range slices.Concat(signMakers, strangers) {
				if s := (impl.Sig{Key: other, Tag: right.Tag}); other != key && impl.IsSigBy(s, m) {
					t.Errorf("%v is a signature of %.20v, with the tag of the key %d", s, m, key)
				}
			}
		}
	}
}

func TestIsSigByOfAllKeys(t *testing.T) {
	keys := slices.Concat(strangers, edgeSetKeys, edgeKeys)
	for key := -300; key <= 300; key++ {
		keys = append(keys, key)
	}
	for _, m := range [][]int{nil, {}, {0}, {4, 7}, {math.MinInt, math.MaxInt}} {
		for _, key := range keys {
			s := impl.Sig{Key: key, Tag: impl.TagOf(key, m)}
			if got, want := impl.IsSigBy(s, m), key >= 1 && key <= 99; got != want {
				t.Errorf("IsSigBy(%v, %v) is %v", s, m, got)
			}
		}
	}
	if impl.IsSigBy(impl.Sig{}, nil) || impl.IsSigBy(impl.Sig{Key: 1}, nil) {
		t.Error("a signature without a tag was accepted")
	}
}

// changedMessages are m with one element changed, one more, or one less.
func changedMessages(m []int) [][]int {
	changed := [][]int{}
	for i := range len(m) + 1 {
		for _, v := range []int{-1, 0, 5, 223} {
			changed = append(changed, slices.Insert(slices.Clone(m), i, v))
		}
	}
	for i := range m {
		changed = append(changed, slices.Delete(slices.Clone(m), i, i+1))
		for _, add := range []int{-1, 1, 1000, -modulus + 1} {
			other := slices.Clone(m)
			other[i] += add
			changed = append(changed, other)
		}
	}
	return changed
}

func TestSignaturesOfOtherMessages(t *testing.T) {
	k := setOf(2, 2, 5, 9)
	for _, m := range messages {
		m = m[:min(len(m), 20)]
		for _, other := range slices.Concat(changedMessages(m), messages) {
			if slices.Equal(m, other) {
				continue
			}
			sigs := impl.SignBy([]int{2, 5, 9}, k, other)
			if len(sigs) != 3 || slices.ContainsFunc(sigs, func(s impl.Sig) bool { return impl.IsSigBy(s, m) }) {
				t.Errorf("a signature of %.20v is one of %.20v", other, m)
			}
			if impl.CountSigs(k, m, sigs) != 0 || impl.IsSigned(k, m, sigs) || len(impl.SignersOf(m, sigs)) != 0 {
				t.Errorf("%.20v is signed by the signatures of %.20v", m, other)
			}
			if one := append(sigs, sigByRule(5, m)); impl.CountSigs(k, m, one) != 1 || impl.IsSigned(k, m, one) || !slices.Equal(impl.SignersOf(m, one), []int{5}) {
				t.Errorf("%.20v is signed by one signature of it and three of %.20v", m, other)
			}
		}
	}
}

func TestCountSigs(t *testing.T) {
	m, k := []int{4, 7}, setOf(2, 2, 5, 9)
	two, five, nine := sigByRule(2, m), sigByRule(5, m), sigByRule(9, m)
	wrong, swapped, other := impl.Sig{Key: 2, Tag: two.Tag + 1}, impl.Sig{Key: 5, Tag: two.Tag}, sigByRule(2, []int{4, 8})
	three, zero, hundred, far := sigByRule(3, m), sigByRule(0, m), sigByRule(100, m), sigByRule(2+modulus, m)
	for _, c := range []struct {
		k     impl.Keys
		sigs  []impl.Sig
		count int
		want  bool
	}{
		{k, nil, 0, false}, {k, []impl.Sig{}, 0, false}, {k, []impl.Sig{two}, 1, false}, {k, []impl.Sig{two, nine}, 2, true}, {k, []impl.Sig{nine, two}, 2, true}, {k, []impl.Sig{nine, five, two}, 3, true},
		// A key that signed twice counts once.
		{k, []impl.Sig{two, two}, 1, false}, {k, []impl.Sig{two, five, two}, 2, true}, {k, slices.Repeat([]impl.Sig{five}, 5000), 1, false}, {setOf(3, 2, 5, 9), []impl.Sig{two, two, five, five}, 2, false},
		// A wrong signature does not spoil the right one, and adds nothing.
		{k, []impl.Sig{wrong}, 0, false}, {k, []impl.Sig{wrong, two}, 1, false}, {k, []impl.Sig{two, wrong}, 1, false}, {k, []impl.Sig{wrong, five}, 1, false}, {k, []impl.Sig{wrong, two, five}, 2, true}, {k, []impl.Sig{five, two, wrong}, 2, true}, {k, []impl.Sig{wrong, other, wrong, two, other, nine}, 2, true},
		{k, []impl.Sig{swapped}, 0, false}, {k, []impl.Sig{two, swapped}, 1, false}, {k, []impl.Sig{swapped, five, two}, 2, true}, {k, []impl.Sig{other}, 0, false}, {k, []impl.Sig{other, nine}, 1, false}, {k, []impl.Sig{{}, {Key: 2}, {Tag: two.Tag}}, 0, false},
		// Keys that are no keys of the set.
		{k, []impl.Sig{three}, 0, false}, {k, []impl.Sig{three, two}, 1, false}, {k, []impl.Sig{three, two, three, nine}, 2, true}, {k, []impl.Sig{zero, hundred, far, nine}, 1, false}, {setOf(1, 7), []impl.Sig{two, three, five, nine}, 0, false},
		{impl.OneKey(2), []impl.Sig{two}, 1, true}, {impl.OneKey(2), []impl.Sig{far}, 0, false}, {impl.OneKey(2), []impl.Sig{five, wrong}, 0, false},
		// A set that is not valid: its keys count, but nothing is signed.
		{impl.Keys{}, nil, 0, false}, {impl.Keys{}, []impl.Sig{two}, 0, false}, {setOf(0), nil, 0, false}, {setOf(-1), []impl.Sig{two}, 0, false}, {setOf(0, 2), []impl.Sig{two}, 1, false}, {setOf(0, 2), nil, 0, false}, {setOf(-1, 2), []impl.Sig{two}, 1, false}, {setOf(2, 2), []impl.Sig{two}, 1, false}, {setOf(2, 2), []impl.Sig{two, five}, 1, false},
		{setOf(1, 5, 2), []impl.Sig{two}, 1, false}, {setOf(1, 5, 2), []impl.Sig{two, five}, 2, false}, {setOf(1, 0), []impl.Sig{zero}, 0, false}, {setOf(1, 100), []impl.Sig{hundred}, 0, false}, {setOf(1, 2+modulus), []impl.Sig{far, two}, 0, false}, {setOf(1, 0, 2), []impl.Sig{zero, two}, 1, false}, {setOf(1, 1, 2, 3, 5, 9), []impl.Sig{two, three, five, nine}, 4, false},
		// Each element of List counts, as it does for SignBy.
		{setOf(1, 2, 2), []impl.Sig{two}, 2, false}, {setOf(2, 2, 5, 2), []impl.Sig{two, two, five}, 3, false},
	} {
		if got := impl.CountSigs(c.k, m, c.sigs); got != c.count {
			t.Errorf("CountSigs(%v, %.20v) is %d, want %d", c.k, c.sigs, got, c.count)
		}
		if got := impl.IsSigned(c.k, m, c.sigs); got != c.want {
			t.Errorf("IsSigned(%v, %.20v) is %v", c.k, c.sigs, got)
		}
	}
}

func TestSigsFollowTheRule(t *testing.T) {
	m := []int{4, 7}
	two, nine := sigByRule(2, m), sigByRule(9, m)
	pool := []impl.Sig{
		two, nine, sigByRule(5, m), sigByRule(3, m), sigByRule(0, m), sigByRule(100, m),
		{Key: 2, Tag: two.Tag - 1}, {Key: 5, Tag: two.Tag}, {Key: 9, Tag: two.Tag}, sigByRule(9, []int{4, 7, 0}),
	}
	sets := []impl.Keys{}
	for _, list := range [][]int{{}, {2}, {2, 9}, {2, 5, 9}, {2, 3, 5, 9}, {9, 2}, {5, 5}, {0, 2}, {2, 100}, {2, 3, 5, 9, 10}} {
		for need := -1; need <= 5; need++ {
			sets = append(sets, setOf(need, list...))
		}
	}
	for _, sigs := range sigLists(4, pool) {
		// The tags are compared with those of the pool, which follow the rule.
		good := map[int]bool{}
		for _, s := range sigs {
			if slices.Contains(pool[:4], s) {
				good[s.Key] = true
			}
		}
		checkSigners(t, m, sigs, good)
		for _, k := range sets {
			checkSigs(t, k, m, sigs, good)
		}
	}
}

func TestSigsOfAllMessages(t *testing.T) {
	for _, m := range append(messages, nil) {
		sigs := []impl.Sig{}
		for _, key := range slices.Concat([]int{99, 9, 98}, strangers, []int{2, 9, 1, 50}) {
			right := sigByRule(key, m)
			sigs = append(sigs, impl.Sig{Key: key, Tag: right.Tag - 1}, right, impl.Sig{Key: key, Tag: right.Tag + 1}, impl.Sig{Key: 5, Tag: right.Tag})
		}
		good := goodKeys(m, sigs)
		if len(good) != 6 {
			t.Fatalf("%v signed %.20v", good, m)
		}
		checkSigners(t, m, sigs, good)
		for _, k := range someKeys() {
			checkSigs(t, k, m, sigs, good)
		}
	}
}

// This is promise 7: all sets of eight keys, and all that can be held of them.
func TestSignedIfEnoughKeysAreHeld(t *testing.T) {
	m, other := []int{4, 7}, []int{4, 8}
	sets, signed := 0, 0
	for _, last := range []int{8, 99} {
		all := []int{}
		for key := last - 7; key <= last; key++ {
			all = append(all, key)
		}
		visitKeys(8, func(k impl.Keys) {
			k.List = slices.Clone(k.List)
			for i := range k.List {
				k.List[i] += last - 8
			}
			sets++
			for bits := range 1 << len(all) {
				held := subsetOf(all, bits)
				sigs := impl.SignBy(held, k, m)
				want := canSignByRule(k, held)
				if impl.CanSign(k, held) != want || impl.IsSigned(k, m, sigs) != want {
					t.Fatalf("with %v held, %v can sign: %v; signed: %v; want %v", held, k, impl.CanSign(k, held), impl.IsSigned(k, m, sigs), want)
				}
				if impl.IsSigned(k, other, sigs) {
					t.Fatalf("with %v held, %v signed %v and not %v", held, k, other, m)
				}
				if want {
					signed++
				}
			}
		})
	}
	// For each n: the sets of n keys, the choices of Need or more of these, for
	// each Need, and the choices among the other keys.
	wantSigned := 8*1*128 + 28*(3+1)*64 + 56*(7+4+1)*32 + 70*(15+11+5+1)*16
	if sets != 2*512 || signed != 2*wantSigned {
		t.Errorf("%d sets were signed %d times, want %d times", sets, signed, 2*wantSigned)
	}
}

func TestSignedIfCanSign(t *testing.T) {
	everything := slices.Concat(edgeSetKeys, []int{2, 5, 7, 9, 95, 96, 97, 99, 99})
	for _, m := range append(messages, nil) {
		for _, k := range someKeys() {
			k.List = k.List[:min(len(k.List), 20)]
			for _, held := range [][]int{nil, {}, {2}, {2, 2}, {9, 5}, {99, 1, 99}, {0, -1, 100}, k.List, everything, slices.Concat(k.List, everything, k.List)} {
				want := canSignByRule(k, held)
				if got := impl.IsSigned(k, m, impl.SignBy(held, k, m)); got != want || impl.CanSign(k, held) != want {
					t.Errorf("with %v held, %v signed %.20v: %v, want %v", held, k, m, got, want)
				}
			}
		}
	}
}

func TestInvalidKeysSignNothing(t *testing.T) {
	for _, m := range [][]int{nil, {}, {4, 7}, {math.MinInt}} {
		all := []impl.Sig{}
		for key := -10; key <= 110; key++ {
			all = append(all, sigByRule(key, m))
		}
		for _, k := range brokenKeys() {
			k.List = k.List[:min(len(k.List), 20)]
			if isKeysByRule(k) {
				t.Fatalf("%v is valid", k)
			}
			for _, sigs := range [][]impl.Sig{nil, {}, all, impl.SignBy(k.List, k, m)} {
				if impl.IsSigned(k, m, sigs) {
					t.Errorf("%v signed %v", k, m)
				}
			}
		}
	}
}

func TestSignersOf(t *testing.T) {
	m := []int{4, 7}
	one, two, nine, last := sigByRule(1, m), sigByRule(2, m), sigByRule(9, m), sigByRule(99, m)
	wrong, other := impl.Sig{Key: 2, Tag: two.Tag + 1}, sigByRule(9, []int{4, 7, 7})
	for _, c := range []struct {
		sigs []impl.Sig
		want []int
	}{
		{nil, nil}, {[]impl.Sig{}, nil}, {[]impl.Sig{two}, []int{2}}, {[]impl.Sig{two, nine}, []int{2, 9}}, {[]impl.Sig{nine, two}, []int{2, 9}}, {[]impl.Sig{last, nine, two, one}, []int{1, 2, 9, 99}}, {[]impl.Sig{nine, last, one, two}, []int{1, 2, 9, 99}},
		{[]impl.Sig{two, two}, []int{2}}, {[]impl.Sig{nine, two, nine}, []int{2, 9}}, {[]impl.Sig{nine, two, two, nine, nine, last, two}, []int{2, 9, 99}}, {slices.Repeat([]impl.Sig{nine, two}, 5000), []int{2, 9}},
		{[]impl.Sig{wrong}, nil}, {[]impl.Sig{wrong, two}, []int{2}}, {[]impl.Sig{two, wrong}, []int{2}}, {[]impl.Sig{other, two, wrong}, []int{2}}, {[]impl.Sig{other, wrong, nine}, []int{9}}, {[]impl.Sig{{}, {Key: 1}, {Key: 3, Tag: two.Tag}}, nil},
		{[]impl.Sig{sigByRule(0, m), sigByRule(100, m), sigByRule(-1, m), sigByRule(2+modulus, m)}, nil}, {[]impl.Sig{sigByRule(100, m), last, sigByRule(0, m), one}, []int{1, 99}},
	} {
		if got := impl.SignersOf(m, c.sigs); !slices.Equal(got, c.want) {
			t.Errorf("SignersOf(%.20v) is %v, want %v", c.sigs, got, c.want)
		}
	}
}

// All keys sign in several orders, some of them twice or wrongly as well.
func TestSignersOfAllKeys(t *testing.T) {
	for _, m := range [][]int{nil, {0}, {4, 7}} {
		for _, step := range []int{1, 2, 36, 61, 100} {
			sigs, good := []impl.Sig{}, map[int]bool{}
			for i := range 101 {
				right := sigByRule(i*step%101, m)
				sigs = append(sigs, impl.Sig{Key: right.Key, Tag: right.Tag + step}, right)
				if i%3 == 0 {
					sigs = append(sigs, right, sigs[0])
				}
				good[right.Key] = true
			}
			checkSigners(t, m, sigs, good)
		}
	}
}

func TestSignFunctionsLeaveTheirArguments(t *testing.T) {
	for _, m := range append(messages, nil) {
		for _, start := range someKeys() {
			k, keysWhole := spareKeys(start)
			message, messageWhole := spareInts(m)
			held, heldWhole := spareInts([]int{9, 2, 2, 99, 1, 0})
			sigs, sigsWhole := spareSigs([]impl.Sig{sigByRule(9, m), {Key: 2}, sigByRule(2, m), sigByRule(9, m)})
			keysBefore, messageBefore, heldBefore, sigsBefore := slices.Clone(keysWhole), slices.Clone(messageWhole), slices.Clone(heldWhole), slices.Clone(sigsWhole)
			tag, made, signers := impl.TagOf(2, message), impl.SignBy(held, k, message), impl.SignersOf(message, sigs)
			good, count, signed := impl.IsSigBy(sigs[0], message), impl.CountSigs(k, message, sigs), impl.IsSigned(k, message, sigs)
			if tag != impl.TagOf(2, m) || !slices.Equal(made, impl.SignBy(heldBefore[:6], start, m)) || !slices.Equal(signers, []int{2, 9}) || !good || count != impl.CountSigs(start, m, sigsBefore[:4]) || signed != impl.IsSigned(start, m, sigsBefore[:4]) {
				t.Errorf("%.20v signs %.20v in another way with spare capacity", start, m)
			}
			for _, values := range [][]int{signers, impl.SignersOf(nil, nil)} {
				overwriteInts(values)
			}
			overwriteSigs(made)
			if !slices.Equal(keysWhole, keysBefore) || !slices.Equal(messageWhole, messageBefore) || !slices.Equal(heldWhole, heldBefore) || !slices.Equal(sigsWhole, sigsBefore) {
				t.Errorf("a function wrote into %.20v, %.20v, what is held or signatures, or shares memory with them", start, m)
			}
		}
	}
}

// overwriteSigs changes everything that the result reaches.
func overwriteSigs(sigs []impl.Sig) {
	sigs = sigs[:cap(sigs)]
	for i := range sigs {
		sigs[i].Key -= 1000
	}
}

// Two calls with the same arguments return memory of their own each.
func TestResultsOfSignaturesAreTheirOwn(t *testing.T) {
	for _, m := range messages {
		for _, k := range []impl.Keys{setOf(2, 2, 5, 9), setOf(1, 7, 7), {}} {
			sigs := impl.SignBy(k.List, k, m)
			signers := impl.SignersOf(m, sigs)
			wantSigs, wantSigners := signByRule(k.List, k, m), slices.Compact(slices.Clone(k.List))
			overwriteSigs(impl.SignBy(k.List, k, m))
			overwriteInts(impl.SignersOf(m, sigs))
			if !slices.Equal(sigs, wantSigs) || !slices.Equal(signers, wantSigners) {
				t.Errorf("two results for %v and %.20v share memory", k, m)
			}
		}
	}
}

// Every function returns for arguments of any size.
func TestSignaturesOfLongLists(t *testing.T) {
	long := dataInts(20000)
	k := impl.Keys{List: long[:300], Need: math.MaxInt}
	sigs := impl.SignBy(long, k, long)
	if want := signByRule(long[:300], impl.Keys{List: long[:3]}, long); len(sigs) != 300 || !slices.Equal(sigs[:3], want) {
		t.Fatalf("%d signatures", len(sigs))
	}
	checkSigs(t, k, long[:50], sigs, map[int]bool{})
	checkSigners(t, long[:50], sigs, map[int]bool{})
	many := slices.Repeat([]impl.Sig{sigByRule(5, long[:9]), {Key: math.MinInt, Tag: math.MaxInt}, {Key: math.MaxInt, Tag: math.MinInt}}, 20000)
	checkSigs(t, setOf(1, 5, 6), long[:9], many, map[int]bool{5: true})
	checkSigners(t, long[:9], many, map[int]bool{5: true})
}
