package tests

import (
	"fmt"
	"math"
	"math/big"
	"slices"
	"testing"

	"loop.example/g00588/impl"
)

// goodSalts may be in a head, and badSalts may not.
var (
	goodSalts = []int{0, 1, 7, 1000003, 123456789, modulus - 2, modulus - 1}
	badSalts  = []int{math.MinInt, math.MinInt + 1, -1 << 32, -modulus - 1, -modulus, 1 - modulus, -7, -1, modulus, modulus + 1, modulus + 7, 2 * modulus, 1 << 31, 1 << 32, 1<<32 + 7, math.MaxInt - 1, math.MaxInt}
)

// goodTerms are pairs of a time and a term after it that a head may have.
var goodTerms = [][2]int{{0, 0}, {0, 200}, {1, 1}, {10, 50}, {50000, 199}, {99800, 200}, {99999, 1}, {100000, 0}}

// shownSigned is a signed head in a message of a test, cut off where it is long.
func shownSigned(s impl.Signed) string {
	return fmt.Sprintf("%s with %d signatures %v", shownHead(s.Head), len(s.Sigs), s.Sigs[:min(len(s.Sigs), 9)])
}

func zoneByRule(k impl.Keys, salt int) int {
	return hashByRule(slices.Concat([]int{239, salt}, keysIntsByRule(k)))
}

func signHeadByRule(held []int, k impl.Keys, h impl.Head) impl.Signed {
	return impl.Signed{Head: h, Sigs: signByRule(held, k, headIntsByRule(h))}
}

// countSignedByRule counts each element of the set whose key signed the head.
func countSignedByRule(s impl.Signed, k impl.Keys) int {
	good, count := goodKeys(headIntsByRule(s.Head), s.Sigs), 0
	for _, key := range k.List {
		if good[key] {
			count++
		}
	}
	return count
}

// mayBeFirstByRule is what IsFirst wants of the head itself.
func mayBeFirstByRule(h impl.Head) bool {
	return isHeadByRule(h) && h.Epoch == 0 && h.Kind == 1 && !h.Frozen && h.Zone == zoneByRule(h.Keys, h.Prev)
}

func isFirstByRule(s impl.Signed) bool {
	return mayBeFirstByRule(s.Head) && countSignedByRule(s, s.Head.Keys) >= s.Head.Keys.Need
}

// firstHeadByRule adds the term to the time with numbers of any size.
func firstHeadByRule(k impl.Keys, salt int, list []impl.Entry, now int, term int) (impl.Head, bool) {
	until := new(big.Int).Add(big.NewInt(int64(now)), big.NewInt(int64(term)))
	if !areEntriesByRule(list) || !until.IsInt64() {
		return impl.Head{}, false
	}
	h := impl.Head{
		Zone: zoneByRule(k, salt), Epoch: 0, Kind: 1, Time: now, Until: int(until.Int64()), Count: len(list), Root: rootByRule(list), Prev: salt,
		Keys: k, Heirs: impl.Keys{}, Wait: 0, Judge: impl.Keys{}, Frozen: false,
	}
	if !isHeadByRule(h) {
		return impl.Head{}, false
	}
	return h, true
}

func equalSignedByRule(a impl.Signed, b impl.Signed) bool {
	for i := range min(len(a.Sigs), len(b.Sigs)) {
		if a.Sigs[i].Key != b.Sigs[i].Key || a.Sigs[i].Tag != b.Sigs[i].Tag {
			return false
		}
	}
	return len(a.Sigs) == len(b.Sigs) && equalHeadsByRule(a.Head, b.Head)
}

// firstSets are valid sets of one to four keys, with each Need.
func firstSets() []impl.Keys {
	all := []impl.Keys{}
	for size := 1; size <= 4; size++ {
		for _, first := range []int{1, 2, 7, 31, 90, 99} {
			all = append(all, setsOfSize(size, first)...)
		}
	}
	return all
}

// firstHeads are heads that begin zones of these sets, with all salts and times
// and different contents; every other one has heirs or a judge or both.
func firstHeads() []impl.Head {
	all, contents := []impl.Head{}, validContents()
	for i, k := range firstSets() {
		now, term := goodTerms[i%len(goodTerms)][0], goodTerms[i%len(goodTerms)][1]
		h, _ := firstHeadByRule(k, goodSalts[i%len(goodSalts)], contents[i*17%len(contents)], now, term)
		if i%4 > 1 {
			h.Heirs, h.Wait = setOf(1, 4, 8), 1+i*9%500
		}
		if i%4 == 1 || i%4 == 3 {
			h.Judge = setOf(2, 5, 6, 99)
		}
		all = append(all, h)
	}
	return all
}

func allKeys() []int {
	keys := []int{}
	for key := 1; key <= 99; key++ {
		keys = append(keys, key)
	}
	return keys
}

// byEverybody is the head with the signatures of all keys that there are.
func byEverybody(h impl.Head) impl.Signed {
	return impl.Signed{Head: h, Sigs: impl.SignBy(allKeys(), setOf(1, allKeys()...), headIntsByRule(h))}
}

func checkFirst(t *testing.T, s impl.Signed, want bool) {
	t.Helper()
	if got := impl.IsFirst(s); got != want {
		t.Errorf("IsFirst(%s) is %v", shownSigned(s), got)
	}
}

func checkFirstHead(t *testing.T, k impl.Keys, salt int, list []impl.Entry, now int, term int) {
	t.Helper()
	want, wantOk := firstHeadByRule(k, salt, list, now, term)
	if got, ok := impl.FirstHead(k, salt, list, now, term); ok != wantOk || !equalHeadsByRule(got, want) {
		t.Errorf("FirstHead(%.20v, %d, %s, %d, %d) is %s, %v, want %s, %v", k, salt, shownList(list), now, term, shownHead(got), ok, shownHead(want), wantOk)
	}
}

// checkNoFirstHead is for arguments of which the rule of the tests says nothing.
func checkNoFirstHead(t *testing.T, k impl.Keys, salt int, list []impl.Entry, now int, term int) {
	t.Helper()
	if got, ok := impl.FirstHead(k, salt, list, now, term); ok || !equalHeadsByRule(got, impl.Head{}) {
		t.Errorf("FirstHead(%.20v, %d, %s, %d, %d) is %s, %v", k, salt, shownList(list), now, term, shownHead(got), ok)
	}
}

func checkZone(t *testing.T, k impl.Keys, salt int) {
	t.Helper()
	if got, want := impl.ZoneOf(k, salt), zoneByRule(k, salt); got != want {
		t.Errorf("ZoneOf(%.20v, %d) is %d, want %d", k, salt, got, want)
	}
}

func checkSignHead(t *testing.T, held []int, k impl.Keys, h impl.Head) {
	t.Helper()
	got, want := impl.SignHead(held, k, h), signHeadByRule(held, k, h)
	if !equalSignedByRule(got, want) {
		t.Errorf("SignHead(%.20v, %.20v, %s) is %s, want %s", held, k, shownHead(h), shownSigned(got), shownSigned(want))
	}
}

func checkSignedCount(t *testing.T, s impl.Signed, k impl.Keys) {
	t.Helper()
	if got, want := impl.CountSignedSigs(s, k), countSignedByRule(s, k); got != want {
		t.Errorf("CountSignedSigs(%s, %.20v) is %d, want %d", shownSigned(s), k, got, want)
	}
}

func checkEqualSigned(t *testing.T, a impl.Signed, b impl.Signed, want bool) {
	t.Helper()
	if impl.EqualSigned(a, b) != want || impl.EqualSigned(b, a) != want {
		t.Errorf("%s and %s: EqualSigned is %v, %v", shownSigned(a), shownSigned(b), impl.EqualSigned(a, b), impl.EqualSigned(b, a))
	}
}

// The fields of a head are those of the signed head.
func TestSignedHeadHasTheFieldsOfItsHead(t *testing.T) {
	s := impl.SignHead([]int{10, 19}, setOf(2, 10, 15, 19), fullHead())
	s.Epoch++
	want := fullHead()
	want.Epoch++
	if !equalHeadsByRule(s.Head, want) || s.Zone != 1005 || s.Epoch != 32 || !s.Frozen || s.Judge.Need != 3 || len(s.Sigs) != 2 {
		t.Errorf("the signed head is %s", shownSigned(s))
	}
}

func TestZoneOf(t *testing.T) {
	for _, c := range []struct {
		k      impl.Keys
		salt   int
		values []int
	}{
		{setOf(2, 2, 5), 7, []int{239, 7, 2, 2, 2, 5}}, {setOf(1, 9), 0, []int{239, 0, 1, 1, 9}}, {setOf(3, 1, 2, 98, 99), modulus - 1, []int{239, 2147483646, 3, 4, 1, 2, 98, 99}},
		// Neither the set nor the number need be valid.
		{impl.Keys{}, 0, []int{239, 0, 0, 0}}, {impl.Keys{List: []int{}}, 5, []int{239, 5, 0, 0}}, {setOf(7), 5, []int{239, 5, 7, 0}}, {setOf(-1, 9, 9, 0), -5, []int{239, -5, -1, 3, 9, 9, 0}}, {setOf(0, math.MinInt), math.MaxInt, []int{239, math.MaxInt, 0, 1, math.MinInt}},
	} {
		if got, want := impl.ZoneOf(c.k, c.salt), hashByRule(c.values); got != want || got != impl.Hash(c.values) {
			t.Errorf("ZoneOf(%v, %d) is %d, want %d", c.k, c.salt, got, want)
		}
	}
	for _, k := range append(someKeys(), firstSets()...) {
		for _, salt := range slices.Concat(goodSalts, badSalts[:3], badSalts[len(badSalts)-3:]) {
			k.List = k.List[:min(len(k.List), 30)]
			checkZone(t, k, salt)
		}
	}
	for n := range 40 {
		checkZone(t, setOf(n-20, dataInts(n)...), n-20)
		checkZone(t, impl.OneKey(n), edgeNumbers[n%len(edgeNumbers)])
	}
}

// Keys begin another zone with another number, and other keys begin another one
// with the same number.
func TestZonesApart(t *testing.T) {
	for _, salt := range goodSalts {
		zones, sets := map[int]impl.Keys{}, 0
		visitKeys(9, func(k impl.Keys) {
			zones[impl.ZoneOf(k, salt)] = k
			sets++
		})
		if len(zones) != sets || sets != 1*9+2*36+3*84+4*126 {
			t.Errorf("%d sets begin %d zones with %d", sets, len(zones), salt)
		}
	}
	for _, k := range firstSets() {
		zones := map[int]bool{}
		for _, salt := range goodSalts {
			zones[impl.ZoneOf(k, salt)] = true
		}
		for salt := 2; salt < 7; salt++ {
			zones[impl.ZoneOf(k, salt)] = true
		}
		if len(zones) != len(goodSalts)+5 {
			t.Errorf("%v begins %d zones with different numbers", k, len(zones))
		}
	}
}

// heldFor are keys that somebody may hold: all of the set, each part of it,
// with others, twice, in another order, or none.
func heldFor(k impl.Keys) [][]int {
	list := k.List[:min(len(k.List), 4)]
	others := slices.DeleteFunc(allKeys(), func(key int) bool { return slices.Contains(list, key) })
	all := [][]int{nil, {}, {0}, {-1, 100}, others, allKeys(), slices.Concat(list, list), slices.Concat(others[:5], list)}
	for bits := range 1 << len(list) {
		held := subsetOf(list, bits)
		all = append(all, held, slices.Concat(held, others[:3]))
	}
	return all
}

func TestSignHead(t *testing.T) {
	heads := slices.Concat([]impl.Head{{}, plainHead(), fullHead(), {Zone: -1, Epoch: math.MaxInt, Keys: setOf(9, 5, 5), Heirs: setOf(2), Judge: setOf(0, 7), Frozen: true}}, firstHeads()[:6], fewHeads()[:6])
	sets := []impl.Keys{{}, {List: []int{}}, setOf(1), setOf(1, 3), setOf(9, 3), setOf(0, 2, 5), setOf(2, 2, 5, 9), setOf(3, 2, 5, 9), setOf(4, 1, 2, 98, 99), setOf(1, 9, 5, 2), setOf(1, 7, 7), setOf(-5, 0, -1, 100, 7), setOf(1, 1, 2, 3, 4, 5, 6)}
	for _, h := range heads {
		for _, k := range append(sets, h.Keys) {
			for _, held := range heldFor(k) {
				checkSignHead(t, held, k, h)
			}
		}
	}
}

// The signatures are in the order of the set, and hold for the head.
func TestSignaturesOfHeads(t *testing.T) {
	for _, h := range append(firstHeads(), fewHeads()...) {
		for _, held := range heldFor(h.Keys) {
			s := impl.SignHead(held, h.Keys, h)
			signers := slices.DeleteFunc(slices.Clone(h.Keys.List), func(key int) bool { return !slices.Contains(held, key) })
			if got := impl.SignersOf(impl.HeadInts(h), s.Sigs); !slices.Equal(got, signers) || len(s.Sigs) != len(signers) {
				t.Errorf("%s is signed by %v", shownSigned(s), got)
			}
			if got := impl.CountSignedSigs(s, h.Keys); got != len(signers) {
				t.Errorf("CountSignedSigs(%s) is %d, want %d", shownSigned(s), got, len(signers))
			}
		}
	}
}

func TestFirstHead(t *testing.T) {
	contents := validContents()
	for i, k := range firstSets() {
		for j, salt := range goodSalts {
			for n, term := range goodTerms {
				list := contents[(i*61+j*11+n)%len(contents)]
				checkFirstHead(t, k, salt, list, term[0], term[1])
				h, ok := impl.FirstHead(k, salt, list, term[0], term[1])
				want := impl.Head{Zone: impl.ZoneOf(k, salt), Kind: impl.HdOwner, Time: term[0], Until: term[0] + term[1], Count: len(list), Root: impl.RootOf(list), Prev: salt, Keys: k}
				if !ok || !impl.EqualHeads(h, want) || !impl.IsHead(h) || h.Epoch != 0 || h.Frozen || h.Wait != 0 || !impl.NoKeys(h.Heirs) || !impl.NoKeys(h.Judge) {
					t.Errorf("FirstHead(%v, %d, %s, %d, %d) is %s, %v", k, salt, shownList(list), term[0], term[1], shownHead(h), ok)
				}
			}
		}
	}
}

func TestFirstHeadOfAllContents(t *testing.T) {
	k := setOf(2, 2, 5)
	for _, list := range validContents() {
		checkFirstHead(t, k, 7, list, 10, 50)
		h, ok := impl.FirstHead(k, 7, list, 10, 50)
		if !ok || h.Count != len(list) || !impl.CheckAll(h.Root, list) {
			t.Errorf("FirstHead of %s is %s, %v", shownList(list), shownHead(h), ok)
		}
	}
	for _, list := range slices.Concat(brokenContents(), anyLists(), smallLists()) {
		if areEntriesByRule(list) {
			checkFirstHead(t, k, 7, list, 10, 50)
			continue
		}
		checkNoFirstHead(t, k, 7, list, 10, 50)
	}
}

// More entries than a zone holds, and those that are not valid or not in order.
func TestFirstHeadOfBrokenContents(t *testing.T) {
	full := fullContents()[0]
	for _, list := range [][]impl.Entry{
		append(slices.Clone(full), entryOf("zzzzzzzz", 1, 7)), swapped(full, 0, 11), swapped(full, 10, 11), with(full[:11], 5, full[5]), replaced(full, 11, full[0]), replaced(full, 0, entryOf("", 1, 7)), replaced(full, 11, entryOf(full[11].Label, 1, -1)),
		{entryOf("ann", 1, 1000000)}, {entryOf("ann", 0, 7)}, {{}}, {entryOf("ann", 1, 7), entryOf("ann", 1, 7)}, {entryOf("bob", 1, 7), entryOf("ann", 1, 7)}, slices.Repeat([]impl.Entry{entryOf("ann", 1, 7)}, 20000),
	} {
		for _, k := range []impl.Keys{setOf(1, 3), setOf(2, 2, 5), {}} {
			checkNoFirstHead(t, k, 7, list, 10, 50)
			checkNoFirstHead(t, k, -1, list, 10, 300)
		}
	}
}

func TestFirstHeadOfKeys(t *testing.T) {
	for _, k := range append(someKeys(), setOf(1), setOf(0, 5), impl.Keys{List: []int{}}) {
		for n, list := range [][]impl.Entry{nil, {}, {entryOf("ann", 1, 7)}, fullContents()[1]} {
			if isKeysByRule(k) {
				checkFirstHead(t, k, 7+n, list, 10, 50)
				continue
			}
			checkNoFirstHead(t, k, 7+n, list, 10, 50)
		}
	}
	visitKeys(7, func(k impl.Keys) {
		if h, ok := impl.FirstHead(k, 7, nil, 10, 50); !ok || !equalKeysByRule(h.Keys, k) || h.Zone != impl.ZoneOf(k, 7) {
			t.Errorf("FirstHead of %v is %s, %v", k, shownHead(h), ok)
		}
	})
}

func TestFirstHeadOfSalts(t *testing.T) {
	list := []impl.Entry{entryOf("ann", 1, 7)}
	for _, k := range firstSets() {
		for _, salt := range goodSalts {
			if h, ok := impl.FirstHead(k, salt, list, 10, 50); !ok || h.Prev != salt || h.Zone != zoneByRule(k, salt) {
				t.Errorf("FirstHead of %v and %d is %s, %v", k, salt, shownHead(h), ok)
			}
		}
		for _, salt := range badSalts {
			checkNoFirstHead(t, k, salt, list, 10, 50)
		}
	}
}

func TestFirstHeadAtItsLimits(t *testing.T) {
	k, list := setOf(2, 2, 5), []impl.Entry{entryOf("ann", 1, 7)}
	for _, c := range []struct {
		now, term int
		want      bool
	}{
		{0, 0, true}, {0, 1, true}, {0, 199, true}, {0, 200, true}, {0, 201, false}, {0, -1, false}, {1, -1, false}, {1, 0, true}, {-1, 0, false}, {-1, 1, false}, {-1, 2, false}, {-200, 200, false}, {-100, 200, false},
		{10, 50, true}, {10, -1, false}, {10, -10, false}, {10, -11, false}, {10, 200, true}, {10, 201, false}, {10, 202, false}, {10, 300, false}, {300, -200, false}, {300, -300, false},
		{99800, 200, true}, {99800, 201, false}, {99801, 199, true}, {99801, 200, false}, {99900, 100, true}, {99900, 101, false}, {99999, 0, true}, {99999, 1, true}, {99999, 2, false}, {100000, 0, true}, {100000, 1, false}, {100000, -1, false}, {100000, 200, false}, {100001, 0, false}, {100001, -1, false}, {100001, -2, false}, {100200, -200, false},
		// Sums that overflow, or come to a time that a head may have.
		{math.MaxInt, 0, false}, {math.MaxInt, 1, false}, {math.MaxInt, 200, false}, {math.MaxInt, math.MaxInt, false}, {math.MaxInt, -math.MaxInt, false}, {math.MaxInt, 100000 - math.MaxInt, false}, {math.MaxInt, math.MinInt, false}, {math.MaxInt - 199, 200, false}, {math.MaxInt - 200, 200, false},
		{math.MinInt, 0, false}, {math.MinInt, -1, false}, {math.MinInt, math.MaxInt, false}, {math.MinInt, math.MinInt, false}, {math.MinInt + 100, math.MinInt, false}, {math.MinInt + 100, math.MaxInt, false}, {-math.MaxInt, math.MaxInt, false}, {-math.MaxInt, -math.MaxInt, false},
		{0, math.MaxInt, false}, {0, math.MinInt, false}, {1, math.MaxInt, false}, {10, math.MaxInt, false}, {10, math.MaxInt - 9, false}, {100000, math.MaxInt, false}, {100000, math.MinInt, false}, {-10, math.MaxInt, false}, {-10, math.MinInt, false},
		{0, 1 << 32, false}, {10, 1<<32 + 50, false}, {1<<32 + 10, 50, false}, {10, 50 - 1<<32, false}, {1 << 32, -1 << 32, false}, {-1 << 32, 1 << 32, false}, {10 - 1<<32, 50, false}, {10, 256, false},
	} {
		h, ok := impl.FirstHead(k, 7, list, c.now, c.term)
		if ok != c.want || ok && (h.Time != c.now || h.Until != c.now+c.term) || !ok && !equalHeadsByRule(h, impl.Head{}) {
			t.Errorf("FirstHead from %d for %d is %s, %v", c.now, c.term, shownHead(h), ok)
		}
		checkFirstHead(t, k, 7, list, c.now, c.term)
	}
}

func TestFirstHeadAtAllTimes(t *testing.T) {
	k := setOf(1, 3)
	times := slices.Concat(edgeNumbers, []int{9, 10, 99, 100, 199, 201, 300, 99799, 99800, 99801, 99999, 100000, 100001, 100200, -100000, -100001})
	for _, now := range times {
		for _, term := range times {
			checkFirstHead(t, k, 7, nil, now, term)
		}
	}
	for now := -3; now <= 100003; now += 1 + max(now, 0)%7*61 {
		for _, term := range []int{-201, -200, -1, 0, 1, 199, 200, 201} {
			if h, ok := impl.FirstHead(k, 7, nil, now, term); ok != (now >= 0 && term >= 0 && term <= 200 && now+term <= 100000) || ok && h.Until-h.Time != term {
				t.Errorf("FirstHead from %d for %d is %s, %v", now, term, shownHead(h), ok)
			}
		}
	}
}

// Several arguments are wrong at once.
func TestFirstHeadOfNothingValid(t *testing.T) {
	lists := [][]impl.Entry{nil, {entryOf("ann", 1, 7)}, {entryOf("ann", 1, -1)}, {{}}}
	for i, k := range []impl.Keys{setOf(1, 3), {}, setOf(2, 5, 5)} {
		for j, salt := range []int{7, -1, modulus, math.MinInt} {
			for m, list := range lists {
				for n, term := range [][2]int{{10, 50}, {10, 201}, {-1, 1}, {math.MaxInt, math.MaxInt}} {
					checkFirstHead(t, k, salt, list, term[0], term[1])
					if i+j+n > 0 || m > 1 {
						checkNoFirstHead(t, k, salt, list, term[0], term[1])
					}
				}
			}
		}
	}
}

// What FirstHead makes is first as soon as enough of its keys sign it.
func TestZonesThatBegin(t *testing.T) {
	contents := validContents()
	for i, k := range firstSets() {
		for j, salt := range goodSalts {
			h, ok := impl.FirstHead(k, salt, contents[(i*13+j)%len(contents)], 10*i, 20*j)
			if !ok {
				t.Fatalf("there is no first head of %v and %d", k, salt)
			}
			for bits := range 1 << len(k.List) {
				held := subsetOf(k.List, bits)
				signers := len(slices.Compact(slices.Sorted(slices.Values(held))))
				checkFirst(t, impl.SignHead(held, k, h), signers >= k.Need)
				checkFirst(t, signHeadByRule(held, k, h), signers >= k.Need)
			}
			checkFirst(t, impl.Signed{Head: h}, false)
			checkFirst(t, impl.Signed{Head: h, Sigs: []impl.Sig{}}, false)
		}
	}
}

// Heirs and a judge may be named at once.
func TestFirstHeadsWithHeirsAndJudge(t *testing.T) {
	forms := map[[2]bool]int{}
	for _, h := range firstHeads() {
		checkFirst(t, impl.SignHead(h.Keys.List, h.Keys, h), true)
		checkFirst(t, byEverybody(h), true)
		forms[[2]bool{h.Heirs.Need > 0, h.Judge.Need > 0}]++
		for _, k := range []impl.Keys{h.Heirs, h.Judge} {
			// The sign of heirs or of a judge is worth nothing.
			s := impl.SignHead(k.List, k, h)
			checkFirst(t, s, isFirstByRule(s))
		}
	}
	if len(forms) != 4 {
		t.Errorf("the heads have %d forms", len(forms))
	}
}

// othersOf are three keys that are neither in the set nor next to its keys.
func othersOf(k impl.Keys) []int {
	return slices.DeleteFunc(allKeys(), func(key int) bool { return slices.Contains(k.List, key) })[10:13]
}

// Signatures that do not count: those of keys outside of the set, of other
// numbers, with another tag, or of one key many times.
func TestFirstHeadsThatAreNotSigned(t *testing.T) {
	for _, h := range firstHeads() {
		k, message := h.Keys, headIntsByRule(h)
		others := othersOf(k)
		enough, few := impl.SignBy(k.List[:k.Need], k, message), impl.SignBy(k.List[:k.Need-1], k, message)
		foreign := impl.SignBy(others, setOf(1, others...), message)
		checkFirst(t, impl.Signed{Head: h, Sigs: enough}, true)
		checkFirst(t, impl.Signed{Head: h, Sigs: slices.Concat(foreign, enough, foreign, enough)}, true)
		bad := [][]impl.Sig{few, foreign, slices.Concat(few, foreign), slices.Concat(foreign, few, few), slices.Repeat(few, 5)}
		for i, last := range enough {
			rest := slices.Delete(slices.Clone(enough), i, i+1)
			for _, s := range []impl.Sig{
				{Key: last.Key, Tag: last.Tag + 1}, {Key: last.Key, Tag: last.Tag - 1}, {Key: last.Key, Tag: last.Tag + modulus}, {Key: last.Key, Tag: -last.Tag - 1}, {Key: last.Key},
				{Key: last.Key + modulus, Tag: last.Tag}, {Key: last.Key - modulus, Tag: last.Tag}, {Key: others[0], Tag: last.Tag}, {Key: 0, Tag: last.Tag}, {Tag: last.Tag}, {Key: -last.Key, Tag: last.Tag}, {},
				{Key: last.Key, Tag: impl.HeadDigest(h)}, {Key: last.Key, Tag: keyedByRule(last.Key, message)}, {Key: last.Key, Tag: tagByRule(last.Key, message[1:])}, {Key: last.Key, Tag: tagByRule(last.Key, message[:len(message)-1])}, {Key: last.Key, Tag: tagByRule(last.Key, append([]int{impl.HeadDigest(h)}, message...))}, {Key: last.Key, Tag: tagByRule(last.Key, []int{impl.HeadDigest(h)})},
			} {
				bad = append(bad, append(slices.Clone(rest), s), append([]impl.Sig{s}, rest...))
			}
		}
		for _, sigs := range bad {
			checkFirst(t, impl.Signed{Head: h, Sigs: sigs}, false)
		}
	}
}

// A signature of one head holds for no head that differs from it.
func TestFirstHeadsSignedForOthers(t *testing.T) {
	for _, h := range firstHeads()[20:] {
		for _, other := range changedHeads(h) {
			checkFirst(t, impl.Signed{Head: h, Sigs: byEverybody(other).Sigs}, false)
			checkFirst(t, impl.Signed{Head: other, Sigs: byEverybody(h).Sigs}, false)
		}
	}
}

// All heads that are almost first, signed by everybody: the rule of the tests
// says which of them are.
func TestHeadsThatAreAlmostFirst(t *testing.T) {
	first := map[bool]int{}
	for i, h := range firstHeads() {
		for _, other := range slices.Concat(changedHeads(h), exchangedHeads(h)) {
			want := mayBeFirstByRule(other)
			checkFirst(t, byEverybody(other), want)
			first[want]++
			if want && i%5 == 0 {
				checkFirst(t, impl.SignHead(other.Keys.List[:other.Keys.Need], other.Keys, other), true)
				checkFirst(t, impl.SignHead(other.Keys.List[1:][:other.Keys.Need-1], other.Keys, other), false)
			}
		}
	}
	if first[true] < 500 || first[false] < 3000 {
		t.Errorf("%d of the changed heads are first and %d not", first[true], first[false])
	}
}

// Whoever signed it: one wrong field is enough.
func TestHeadsThatAreNotFirst(t *testing.T) {
	for _, h := range firstHeads() {
		h.Judge = setOf(1, 5)
		checkFirst(t, byEverybody(h), true)
		changed := func(change func(h *impl.Head)) {
			t.Helper()
			other := copiedHead(h)
			change(&other)
			checkFirst(t, byEverybody(other), false)
			checkFirst(t, impl.SignHead(other.Keys.List, other.Keys, other), false)
			checkFirst(t, impl.SignHead(h.Keys.List, h.Keys, other), false)
		}
		for _, epoch := range []int{1, 2, 199, 200, 201, -1, 256, 1 << 32, math.MinInt, math.MaxInt} {
			changed(func(h *impl.Head) { h.Epoch = epoch })
		}
		for _, kind := range []int{impl.HdHeir, impl.HdJudge, 0, 4, -1, 257, 1<<32 + 1, math.MinInt, math.MaxInt} {
			changed(func(h *impl.Head) { h.Kind = kind })
		}
		changed(func(h *impl.Head) { h.Frozen = true })
		changed(func(h *impl.Head) { h.Frozen, h.Judge = true, impl.Keys{} })
		for _, add := range []int{1, -1, 1000003, -1000003, modulus, -modulus, 1 << 31, 1 << 32, math.MinInt} {
			changed(func(h *impl.Head) { h.Zone += add })
			changed(func(h *impl.Head) { h.Prev += add })
			changed(func(h *impl.Head) { h.Zone, h.Prev = h.Zone+add, h.Prev+add })
		}
		changed(func(h *impl.Head) { h.Zone = 0 })
		changed(func(h *impl.Head) { h.Zone, h.Prev = h.Prev, h.Zone })
		changed(func(h *impl.Head) { h.Zone = impl.KeysDigest(h.Keys) })
		changed(func(h *impl.Head) { h.Zone = impl.HeadDigest(*h) })
		changed(func(h *impl.Head) { h.Zone = zoneByRule(h.Keys, h.Root) })
		changed(func(h *impl.Head) { h.Zone = zoneByRule(h.Heirs, h.Prev) })
		changed(func(h *impl.Head) { h.Zone = zoneByRule(h.Judge, h.Prev) })
	}
}

// A head that is not valid is not first, whoever signed it, although its Zone
// is that of its keys and its number.
func TestFirstHeadsThatAreNotValid(t *testing.T) {
	for _, h := range firstHeads() {
		changed := func(change func(h *impl.Head)) {
			t.Helper()
			other := copiedHead(h)
			change(&other)
			other.Zone = zoneByRule(other.Keys, other.Prev)
			checkFirst(t, byEverybody(other), false)
			checkFirst(t, impl.SignHead(other.Keys.List, other.Keys, other), false)
		}
		for _, salt := range badSalts {
			changed(func(h *impl.Head) { h.Prev = salt })
			changed(func(h *impl.Head) { h.Root = salt })
		}
		changed(func(h *impl.Head) { h.Time = h.Until + 1 })
		changed(func(h *impl.Head) { h.Until = h.Time + 201 })
		changed(func(h *impl.Head) { h.Until = h.Time - 1 })
		changed(func(h *impl.Head) { h.Time, h.Until = -1, 10 })
		changed(func(h *impl.Head) { h.Time, h.Until = 100000, 100001 })
		changed(func(h *impl.Head) { h.Time, h.Until = math.MaxInt, math.MinInt })
		changed(func(h *impl.Head) { h.Count = -1 })
		changed(func(h *impl.Head) { h.Count = maxEntries + 1 })
		changed(func(h *impl.Head) { h.Heirs, h.Wait = setOf(1, 7), 0 })
		changed(func(h *impl.Head) { h.Heirs, h.Wait = setOf(1, 7), 501 })
		changed(func(h *impl.Head) { h.Heirs, h.Wait = impl.Keys{}, 1 })
		changed(func(h *impl.Head) { h.Heirs, h.Wait = setOf(2, 7), 10 })
		changed(func(h *impl.Head) { h.Judge = setOf(0, 5) })
		changed(func(h *impl.Head) { h.Judge = setOf(1) })
	}
	for _, k := range append(brokenKeys(), setOf(0, 5), setOf(-1, 5), setOf(0)) {
		k.List = k.List[:min(len(k.List), 300)]
		h := firstHeads()[5]
		h.Keys, h.Zone = k, zoneByRule(k, h.Prev)
		checkFirst(t, byEverybody(h), false)
		checkFirst(t, impl.SignHead(k.List, k, h), false)
	}
	checkFirst(t, impl.Signed{}, false)
	checkFirst(t, impl.Signed{Head: impl.Head{Kind: 1, Zone: zoneByRule(impl.Keys{}, 0)}}, false)
}

// Of all pairs of these small sets: nobody begins the zone of others, with the
// number that these began it with, whoever signs.
func TestZonesBegunByOtherKeys(t *testing.T) {
	sets := []impl.Keys{}
	visitKeys(5, func(k impl.Keys) { sets = append(sets, k) })
	for i, k := range sets {
		h, _ := impl.FirstHead(k, goodSalts[i%len(goodSalts)], nil, 10, 50)
		for j, other := range sets {
			stolen := h
			stolen.Keys = other
			checkFirst(t, byEverybody(stolen), i == j)
			checkFirst(t, impl.SignHead(other.List, other, stolen), i == j)
			// Others sign for the owners only as far as they are the same.
			checkFirst(t, impl.SignHead(other.List, other, h), countIn(k.List, other.List) >= k.Need)
		}
	}
}

func countIn(list []int, others []int) int {
	count := 0
	for _, v := range list {
		if slices.Contains(others, v) {
			count++
		}
	}
	return count
}

// The number that a zone began with is a part of its name.
func TestZonesBegunWithOtherSalts(t *testing.T) {
	for _, k := range firstSets() {
		for _, salt := range goodSalts {
			h, _ := impl.FirstHead(k, salt, nil, 10, 50)
			for _, other := range slices.Concat(goodSalts, badSalts) {
				changed := h
				changed.Prev = other
				checkFirst(t, impl.SignHead(k.List, k, changed), other == salt)
			}
		}
	}
}

// saltFor returns the number with which these keys begin the zone: its name is
// linear in the number modulo Modulus.
func saltFor(k impl.Keys, zone int) int {
	q := big.NewInt(modulus)
	at0, at1 := zoneByRule(k, 0), zoneByRule(k, 1)
	slope := big.NewInt(int64(at1 - at0))
	slope.ModInverse(slope.Mod(slope, q), q)
	salt := slope.Mul(slope, big.NewInt(int64(zone-at0)))
	return int(salt.Mod(salt, q).Int64())
}

// Hash itself lets other keys compute a number with which they begin the same
// zone: by its definition their head is first. Their number is another one.
func TestZonesThatHashDoesNotTellApart(t *testing.T) {
	sets := firstSets()
	for i, k := range sets {
		zone := impl.ZoneOf(k, 7)
		if salt := saltFor(k, zone); salt != 7 {
			t.Errorf("%v begins the zone %d with %d, too", k, zone, salt)
		}
		other := sets[(i+1)%len(sets)]
		salt := saltFor(other, zone)
		h, ok := impl.FirstHead(other, salt, nil, 10, 50)
		if !ok || h.Zone != zone || salt == 7 {
			t.Errorf("%v with %d begins %s, %v, not the zone %d", other, salt, shownHead(h), ok, zone)
		}
		checkFirst(t, impl.SignHead(other.List, other, h), true)
		checkFirst(t, impl.SignHead(k.List, k, h), countIn(other.List, k.List) >= other.Need)
		h.Prev = 7
		checkFirst(t, byEverybody(h), false)
	}
}

// Some sets of different sizes begin the same zone even with the same number:
// by the definition the heads of both are first.
func TestZonesThatHashGivesTwoSets(t *testing.T) {
	for _, c := range []struct {
		salt int
		a, b impl.Keys
		zone int
	}{
		{0, setOf(1, 14, 16, 72), setOf(1, 59, 60, 92, 95), 579327718}, {1, setOf(3, 1, 97, 98), setOf(1, 19, 23, 26, 99), 168442805},
		{7, setOf(2, 9, 67, 99), setOf(1, 23, 43, 53, 66), 188471978}, {7, setOf(2, 7, 57, 93), setOf(1, 23, 41, 43, 60), 1621230928},
		{modulus - 2, setOf(1, 61, 62), setOf(2, 14, 94, 95, 99), 1817221399},
	} {
		for _, k := range []impl.Keys{c.a, c.b} {
			if got := impl.ZoneOf(k, c.salt); got != c.zone || zoneByRule(k, c.salt) != c.zone {
				t.Errorf("ZoneOf(%v, %d) is %d, want %d", k, c.salt, got, c.zone)
			}
			h, _ := impl.FirstHead(k, c.salt, nil, 10, 50)
			checkFirst(t, impl.SignHead(k.List, k, h), true)
		}
		a, _ := impl.FirstHead(c.a, c.salt, nil, 10, 50)
		b, _ := impl.FirstHead(c.b, c.salt, nil, 10, 50)
		checkFirst(t, impl.SignHead(c.b.List, c.b, a), false)
		checkFirst(t, impl.SignHead(c.a.List, c.a, b), false)
		checkEqualSigned(t, impl.Signed{Head: a}, impl.Signed{Head: b}, false)
	}
}

// Hash itself gives the numbers of some heads the same tags: a signature of one
// holds for the other by its definition. They are still different.
func TestHeadsWithTheSameTags(t *testing.T) {
	pairs := 0
	for _, h := range firstHeads() {
		other := h
		other.Count, other.Root = h.Count+1, h.Root-1000003
		s, moved := impl.SignHead(h.Keys.List, h.Keys, h), impl.SignHead(h.Keys.List, h.Keys, other)
		if !slices.Equal(s.Sigs, moved.Sigs) {
			t.Errorf("%s and %s have different signatures", shownSigned(s), shownSigned(moved))
		}
		checkEqualSigned(t, s, moved, false)
		want := isHeadByRule(other)
		checkFirst(t, impl.Signed{Head: other, Sigs: s.Sigs}, want)
		if want {
			pairs++
		}
	}
	if pairs < 20 {
		t.Errorf("%d such heads are valid", pairs)
	}
}

func TestCountSignedSigs(t *testing.T) {
	h := fullHead()
	message := headIntsByRule(h)
	two, five, nine := sigByRule(2, message), sigByRule(5, message), sigByRule(9, message)
	wrong, other := impl.Sig{Key: 2, Tag: two.Tag + 1}, sigByRule(2, headIntsByRule(plainHead()))
	for _, c := range []struct {
		k    impl.Keys
		sigs []impl.Sig
		want int
	}{
		{setOf(2, 2, 5, 9), nil, 0}, {setOf(2, 2, 5, 9), []impl.Sig{}, 0}, {setOf(2, 2, 5, 9), []impl.Sig{two}, 1}, {setOf(2, 2, 5, 9), []impl.Sig{nine, two}, 2}, {setOf(2, 2, 5, 9), []impl.Sig{five, nine, two}, 3},
		{setOf(2, 2, 5, 9), []impl.Sig{two, two, two}, 1}, {setOf(2, 2, 5, 9), []impl.Sig{two, nine, two, nine}, 2}, {setOf(2, 2, 5, 9), []impl.Sig{wrong, other, {}, {Key: 9}}, 0}, {setOf(2, 2, 5, 9), []impl.Sig{wrong, two, other}, 1}, {setOf(2, 2, 5, 9), []impl.Sig{{Key: 5, Tag: two.Tag}, {Key: 2 + modulus, Tag: two.Tag}}, 0},
		{setOf(1, 5), []impl.Sig{two, nine}, 0}, {setOf(1, 5), []impl.Sig{two, five, nine}, 1},
		// The set need not be valid, and is not that of the head.
		{impl.Keys{}, []impl.Sig{two}, 0}, {impl.Keys{List: []int{}}, []impl.Sig{two}, 0}, {setOf(2), []impl.Sig{two}, 0}, {setOf(0, 2), []impl.Sig{two}, 1}, {setOf(9, 2, 9), []impl.Sig{two, nine}, 2}, {setOf(1, 2, 2), []impl.Sig{two}, 2}, {setOf(1, 9, 2), []impl.Sig{two}, 1}, {setOf(1, -1, 0, 100), []impl.Sig{two, {Key: 100, Tag: tagByRule(100, message)}}, 0},
	} {
		s := impl.Signed{Head: h, Sigs: c.sigs}
		if got := impl.CountSignedSigs(s, c.k); got != c.want {
			t.Errorf("CountSignedSigs(%s, %v) is %d, want %d", shownSigned(s), c.k, got, c.want)
		}
		checkSignedCount(t, s, c.k)
	}
}

// All short lists of signatures that hold, do not hold, or are of others.
func TestCountSignedSigsOfAllLists(t *testing.T) {
	for _, h := range []impl.Head{fullHead(), firstHeads()[40], {}, {Zone: -1, Keys: setOf(2, 7, 7)}} {
		message := headIntsByRule(h)
		elements := []impl.Sig{sigByRule(2, message), sigByRule(5, message), sigByRule(9, message), sigByRule(100, message), {Key: 5, Tag: tagByRule(2, message)}, sigByRule(2, append(message, 0))}
		for i, sigs := range sigLists(4, elements) {
			k := []impl.Keys{setOf(2, 2, 5, 9), setOf(1, 2), setOf(1, 5, 5), setOf(3, 9, 100), {}}[i%5]
			checkSignedCount(t, impl.Signed{Head: h, Sigs: sigs}, k)
		}
	}
}

func TestCountSignedSigsOfChangedHeads(t *testing.T) {
	for _, h := range []impl.Head{fullHead(), plainHead(), firstHeads()[50]} {
		for _, other := range changedHeads(h) {
			s := impl.Signed{Head: other, Sigs: byEverybody(h).Sigs}
			if got := impl.CountSignedSigs(s, h.Keys); got != 0 {
				t.Errorf("%d signatures of %s hold for %s", got, shownHead(h), shownHead(other))
			}
			s.Sigs = append(s.Sigs, sigByRule(h.Keys.List[0], headIntsByRule(other)))
			if got := impl.CountSignedSigs(s, h.Keys); got != 1 {
				t.Errorf("%d signatures hold for %s", got, shownHead(other))
			}
		}
	}
}

// changedSigs are lists that differ from sigs in one field of one signature, in
// the order, or by a signature more or less.
func changedSigs(sigs []impl.Sig) [][]impl.Sig {
	all := [][]impl.Sig{append(slices.Clone(sigs), impl.Sig{}), append([]impl.Sig{{}}, sigs...)}
	for i, s := range sigs {
		all = append(all, slices.Delete(slices.Clone(sigs), i, i+1), slices.Insert(slices.Clone(sigs), i, s), sigs[:i])
		for _, d := range []int{1, -1, 256, 1 << 32, modulus, -modulus, math.MinInt} {
			for _, changed := range []impl.Sig{{Key: s.Key + d, Tag: s.Tag}, {Key: s.Key, Tag: s.Tag + d}, {Key: s.Key + d, Tag: s.Tag - d}} {
				other := slices.Clone(sigs)
				other[i] = changed
				all = append(all, other)
			}
		}
		for j := range i {
			other := slices.Clone(sigs)
			other[i], other[j] = other[j], other[i]
			all = append(all, other)
		}
	}
	return slices.DeleteFunc(all, func(other []impl.Sig) bool { return slices.Equal(other, sigs) })
}

func copiedSigned(s impl.Signed) impl.Signed {
	return impl.Signed{Head: copiedHead(s.Head), Sigs: slices.Clone(s.Sigs)}
}

// someSigned are signed heads, first or not, with lists of all lengths.
func someSigned() []impl.Signed {
	all := []impl.Signed{
		{}, {Head: fullHead()}, {Sigs: []impl.Sig{{Key: 2, Tag: 7}}}, {Head: plainHead(), Sigs: []impl.Sig{{}, {}}}, {Head: impl.Head{Zone: -5, Keys: setOf(-5, 9, 9, 0), Heirs: setOf(7), Judge: setOf(0, 5)}, Sigs: []impl.Sig{{Key: -1, Tag: -2}, {Key: math.MaxInt, Tag: math.MinInt}}},
	}
	for i, h := range append(firstHeads(), fewHeads()...) {
		if i%9 == 0 {
			all = append(all, signHeadByRule(subsetOf(h.Keys.List, 15-i%3), h.Keys, h))
		}
	}
	return all
}

func TestEqualSigned(t *testing.T) {
	for _, s := range someSigned() {
		checkEqualSigned(t, s, copiedSigned(s), true)
		for _, h := range slices.Concat(changedHeads(s.Head), exchangedHeads(s.Head)) {
			checkEqualSigned(t, s, impl.Signed{Head: h, Sigs: slices.Clone(s.Sigs)}, false)
		}
		for _, sigs := range changedSigs(s.Sigs) {
			checkEqualSigned(t, s, impl.Signed{Head: copiedHead(s.Head), Sigs: sigs}, false)
		}
	}
	empty := impl.Signed{Head: impl.Head{Keys: impl.Keys{List: []int{}}, Heirs: impl.Keys{List: make([]int, 0, 9)}, Judge: impl.Keys{List: []int{}}}, Sigs: []impl.Sig{}}
	checkEqualSigned(t, empty, impl.Signed{}, true)
	checkEqualSigned(t, impl.Signed{Head: fullHead(), Sigs: make([]impl.Sig, 0, 5)}, impl.Signed{Head: fullHead()}, true)
	checkEqualSigned(t, empty, impl.Signed{Sigs: []impl.Sig{{}}}, false)
	checkEqualSigned(t, impl.Signed{Sigs: []impl.Sig{{}}}, impl.Signed{Sigs: []impl.Sig{{}, {}}}, false)
}

// All pairs of some signed heads: what one has in its head, another has in its
// signatures.
func TestEqualSignedOfAllPairs(t *testing.T) {
	all := someSigned()
	for _, sigs := range sigLists(3, []impl.Sig{{}, {Key: 1}, {Tag: 1}, {Key: 1, Tag: 1}}) {
		for _, h := range []impl.Head{{}, {Frozen: true}, {Keys: setOf(1)}, {Judge: setOf(0, 1)}} {
			all = append(all, impl.Signed{Head: h, Sigs: sigs})
		}
	}
	for _, a := range all {
		for _, b := range all {
			if got := impl.EqualSigned(a, b); got != equalSignedByRule(a, b) {
				t.Errorf("EqualSigned(%s, %s) is %v", shownSigned(a), shownSigned(b), got)
			}
		}
	}
}

// spareSigned returns s with spare capacity behind each of its lists.
func spareSigned(s impl.Signed) impl.Signed {
	sigs, _ := spareSigs(s.Sigs)
	return impl.Signed{Head: spareHead(s.Head), Sigs: sigs}
}

// wholeSigned returns a copy of s with all that each of its lists reaches.
func wholeSigned(s impl.Signed) impl.Signed {
	return impl.Signed{Head: wholeHead(s.Head), Sigs: slices.Clone(s.Sigs[:cap(s.Sigs)])}
}

// overwriteHead and overwriteSigned change everything that a result reaches.
func overwriteHead(h impl.Head) {
	for _, s := range headSets() {
		overwriteInts(s.in(&h).List)
	}
}

func overwriteSigned(s impl.Signed) {
	overwriteHead(s.Head)
	overwriteSigs(s.Sigs)
}

func TestSignedHeadFunctionsLeaveTheirArguments(t *testing.T) {
	lists := [][]impl.Entry{nil, {}, validContents()[60], fullContents()[2], brokenContents()[50], {{}}}
	for i, start := range someSigned() {
		for _, startKeys := range []impl.Keys{start.Head.Keys, setOf(2, 2, 5, 9), setOf(1, 7, 7), {}} {
			s, other := spareSigned(start), spareSigned(start)
			k, keysWhole := spareKeys(startKeys)
			held, heldWhole := spareInts(slices.Concat(startKeys.List, []int{2, 2, 9, 77}))
			list, listWhole := spareEntries(lists[i%len(lists)])
			before, otherBefore := wholeSigned(s), wholeSigned(other)
			keysBefore, heldBefore, listBefore := slices.Clone(keysWhole), slices.Clone(heldWhole), wholeEntries(listWhole)
			impl.ZoneOf(k, 7)
			impl.IsFirst(s)
			impl.CountSignedSigs(s, k)
			impl.EqualSigned(s, other)
			impl.EqualSigned(s, impl.Signed{Head: s.Head})
			overwriteSigned(impl.SignHead(held, k, s.Head))
			overwriteSigned(impl.SignHead(s.Head.Keys.List, s.Head.Keys, s.Head))
			h, _ := impl.FirstHead(k, 7, list, 10, 50)
			overwriteHead(h)
			h, _ = impl.FirstHead(s.Head.Keys, 7, list, 10, 50)
			overwriteHead(h)
			if !equalSignedByRule(wholeSigned(s), before) || !equalSignedByRule(wholeSigned(other), otherBefore) {
				t.Errorf("a function wrote into %s or its spare capacity, or shares memory with it", shownSigned(start))
			}
			if !slices.Equal(keysWhole, keysBefore) || !slices.Equal(heldWhole, heldBefore) || !sameByRule(wholeEntries(listWhole), listBefore) {
				t.Errorf("a function wrote into %v, what is held or %s, or shares memory with them", startKeys, shownList(lists[i%len(lists)]))
			}
		}
	}
}

// What is done to an argument or to another result does not reach a result.
func TestSignedHeadsAreTheirOwn(t *testing.T) {
	for _, start := range append(firstHeads(), fullHead(), impl.Head{}) {
		h := spareHead(start)
		k, keysWhole := spareKeys(start.Keys)
		held := slices.Clone(start.Keys.List)
		s, again := impl.SignHead(held, k, h), impl.SignHead(held, k, h)
		first, ok := impl.FirstHead(k, 7, nil, 10, 50)
		second, _ := impl.FirstHead(k, 7, nil, 10, 50)
		overwriteSigned(again)
		overwriteHead(second)
		overwriteHead(h)
		overwriteInts(keysWhole)
		overwriteInts(held)
		if want := signHeadByRule(start.Keys.List, start.Keys, start); !equalSignedByRule(s, want) {
			t.Errorf("%s changed afterwards to %s", shownSigned(want), shownSigned(s))
		}
		if want, wantOk := firstHeadByRule(start.Keys, 7, nil, 10, 50); ok != wantOk || !equalHeadsByRule(first, want) {
			t.Errorf("%s changed afterwards to %s", shownHead(want), shownHead(first))
		}
	}
}

// The lists of one result are apart from each other, also where those of the
// argument are one.
func TestListsOfASignedHeadAreApart(t *testing.T) {
	one := setOf(2, 3, 7, 20)
	h := fullHead()
	h.Keys, h.Heirs, h.Judge = one, one, one
	for _, at := range headSets() {
		s := impl.SignHead(one.List, one, h)
		want := signHeadByRule(one.List, one, copiedHead(h))
		overwriteInts(at.in(&s.Head).List)
		for i, key := range at.in(&want.Head).List {
			at.in(&want.Head).List[i] = key - 1000
		}
		if !equalSignedByRule(s, want) {
			t.Errorf("%s of %s is also elsewhere", at.name, shownSigned(s))
		}
	}
	whole := []int{3, 7, 20, 24, 41, 42, -12345}
	h.Keys, h.Heirs, h.Judge = impl.Keys{List: whole[:2], Need: 2}, impl.Keys{List: whole[2:4], Need: 1}, impl.Keys{List: whole[4:6], Need: 1}
	s := impl.SignHead([]int{3, 7, 20}, h.Keys, h)
	checkSignHead(t, []int{3, 7, 20}, h.Keys, h)
	overwriteSigned(s)
	if !slices.Equal(whole, []int{3, 7, 20, 24, 41, 42, -12345}) {
		t.Errorf("a result shares the memory of the lists: %v", whole)
	}
}

// A result does not depend on the spare capacity of the lists.
func TestSignedHeadsWithSpareCapacity(t *testing.T) {
	for _, s := range someSigned() {
		spare := spareSigned(s)
		k, _ := spareKeys(s.Head.Keys)
		checkEqualSigned(t, s, spare, true)
		checkFirst(t, spare, isFirstByRule(s))
		checkSignedCount(t, spare, k)
		checkZone(t, k, 7)
		checkSignHead(t, k.List, k, spare.Head)
		checkFirstHead(t, k, 7, nil, 10, 50)
	}
}

// Every function returns for arguments of any size.
func TestLargeSignedHeads(t *testing.T) {
	large := fullHead()
	large.Keys, large.Heirs, large.Judge = setOf(50000, dataInts(40000)...), setOf(-1, dataInts(30001)...), setOf(math.MaxInt, dataInts(100)...)
	k := setOf(2, 2, 5, 9)
	s := impl.SignHead([]int{9, 2}, k, large)
	checkSignHead(t, []int{9, 2}, k, large)
	checkFirst(t, s, false)
	checkSignedCount(t, s, k)
	checkEqualSigned(t, s, copiedSigned(s), true)
	checkZone(t, large.Keys, 7)
	checkNoFirstHead(t, large.Keys, 7, nil, 10, 50)
	large.Zone, large.Epoch, large.Kind, large.Frozen = impl.ZoneOf(large.Keys, large.Prev), 0, 1, false
	checkFirst(t, byEverybody(large), false)
	h := firstHeads()[40]
	many := slices.Repeat([]impl.Sig{sigByRule(h.Keys.List[0], headIntsByRule(h)), {Key: math.MinInt, Tag: math.MaxInt}, {Key: math.MaxInt, Tag: math.MinInt}}, 20000)
	checkFirst(t, impl.Signed{Head: h, Sigs: many}, h.Keys.Need == 1)
	if got := impl.CountSignedSigs(impl.Signed{Head: h, Sigs: many}, h.Keys); got != 1 {
		t.Errorf("CountSignedSigs of one key many times is %d", got)
	}
	enough := append(many, impl.SignBy(h.Keys.List, h.Keys, headIntsByRule(h))...)
	checkFirst(t, impl.Signed{Head: h, Sigs: enough}, true)
	checkEqualSigned(t, impl.Signed{Head: h, Sigs: many}, impl.Signed{Head: h, Sigs: enough}, false)
}
