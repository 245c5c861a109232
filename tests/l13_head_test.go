package tests

import (
	"fmt"
	"math"
	"math/big"
	"slices"
	"testing"

	"loop.example/g00588/impl"
)

// edgeNumbers are at the limits of an int, of the modulus and of fewer bits.
var edgeNumbers = []int{
	math.MinInt, math.MinInt + 1, math.MinInt + 200, -1 << 32, 1 - 1<<32, -modulus, 1 - modulus, -201, -200, -1, 0, 1, 2, 3, 4, 256, 257,
	1 << 16, 1 << 31, modulus - 1, modulus, modulus + 1, 1 << 32, 1<<32 + 1, 1<<32 + 2, 1<<40 + 1, math.MaxInt - 200, math.MaxInt - 1, math.MaxInt,
}

// headNumber is a number of a head with the limits that it has by itself.
type headNumber struct {
	name      string
	in        func(h *impl.Head) *int
	low, high int
}

func headNumbers() []headNumber {
	return []headNumber{
		{"Zone", func(h *impl.Head) *int { return &h.Zone }, 0, 2147483646},
		{"Epoch", func(h *impl.Head) *int { return &h.Epoch }, 0, 200},
		{"Kind", func(h *impl.Head) *int { return &h.Kind }, 1, 3},
		{"Time", func(h *impl.Head) *int { return &h.Time }, 0, 100000},
		{"Until", func(h *impl.Head) *int { return &h.Until }, 0, 100000},
		{"Count", func(h *impl.Head) *int { return &h.Count }, 0, 12},
		{"Root", func(h *impl.Head) *int { return &h.Root }, 0, 2147483646},
		{"Prev", func(h *impl.Head) *int { return &h.Prev }, 0, 2147483646},
		{"Wait", func(h *impl.Head) *int { return &h.Wait }, 0, 500},
	}
}

// headSet is one of the three sets of keys of a head.
type headSet struct {
	name string
	in   func(h *impl.Head) *impl.Keys
}

func headSets() []headSet {
	return []headSet{
		{"Keys", func(h *impl.Head) *impl.Keys { return &h.Keys }},
		{"Heirs", func(h *impl.Head) *impl.Keys { return &h.Heirs }},
		{"Judge", func(h *impl.Head) *impl.Keys { return &h.Judge }},
	}
}

// shownHead is a head in a message of a test, cut off where it is long.
func shownHead(h impl.Head) string {
	for _, s := range headSets() {
		k := s.in(&h)
		k.List = k.List[:min(len(k.List), 20)]
	}
	return fmt.Sprintf("%+v", h)
}

func noKeysByRule(k impl.Keys) bool {
	return equalKeysByRule(k, impl.Keys{})
}

func equalKeysByRule(a impl.Keys, b impl.Keys) bool {
	return a.Need == b.Need && slices.Equal(a.List, b.List)
}

// isHeadByRule follows the document's words, with a difference of any size.
func isHeadByRule(h impl.Head) bool {
	for _, n := range headNumbers() {
		if v := *n.in(&h); v < n.low || v > n.high {
			return false
		}
	}
	term := new(big.Int).Sub(big.NewInt(int64(h.Until)), big.NewInt(int64(h.Time)))
	if term.Sign() < 0 || term.Cmp(big.NewInt(200)) > 0 {
		return false
	}
	heirs, judge := !noKeysByRule(h.Heirs), !noKeysByRule(h.Judge)
	if !isKeysByRule(h.Keys) || heirs && !isKeysByRule(h.Heirs) || judge && !isKeysByRule(h.Judge) {
		return false
	}
	return heirs == (h.Wait > 0) && (judge || !h.Frozen)
}

// headIntsByRule writes each element at its place.
func headIntsByRule(h impl.Head) []int {
	sets := []impl.Keys{h.Keys, h.Heirs, h.Judge}
	values := make([]int, 16+len(h.Keys.List)+len(h.Heirs.List)+len(h.Judge.List))
	values[0], values[1], values[2], values[3], values[4], values[5], values[6], values[7] = h.Zone, h.Epoch, h.Kind, h.Time, h.Until, h.Count, h.Root, h.Prev
	at := 8
	for i, k := range sets {
		values[at], values[at+1] = k.Need, len(k.List)
		copy(values[at+2:], k.List)
		at += 2 + len(k.List)
		if i == 1 {
			values[at] = h.Wait
			at++
		}
	}
	if h.Frozen {
		values[at] = 1
	}
	return values
}

func headDigestByRule(h impl.Head) int {
	return hashByRule(slices.Concat([]int{233}, headIntsByRule(h)))
}

func equalHeadsByRule(a impl.Head, b impl.Head) bool {
	for _, n := range headNumbers() {
		if *n.in(&a) != *n.in(&b) {
			return false
		}
	}
	for _, s := range headSets() {
		if !equalKeysByRule(*s.in(&a), *s.in(&b)) {
			return false
		}
	}
	return a.Frozen == b.Frozen
}

// setsOfSize are valid sets with so many keys, one for each Need; the zero set
// for no keys.
func setsOfSize(n int, first int) []impl.Keys {
	if n == 0 {
		return []impl.Keys{{}}
	}
	list := []int{}
	for i := range n {
		list = append(list, min(first+i*(first%5+1), 99-n+1+i))
	}
	all := []impl.Keys{}
	for need := range n {
		all = append(all, setOf(need+1, list...))
	}
	return all
}

// headWith returns a valid head with these sets; its numbers vary with n, and
// are at their limits for some of them.
func headWith(n int, kind int, keys impl.Keys, heirs impl.Keys, judge impl.Keys, frozen bool) impl.Head {
	hashes := []int{0, 1, 5, 1000003, 123456789, modulus - 2, modulus - 1}
	starts, terms := []int{0, 1, 10, 99, 50000, 99800}, []int{0, 1, 50, 199, 200}
	h := impl.Head{
		Zone: hashes[n%7], Epoch: []int{0, 1, 2, 100, 199, 200}[n/2%6], Kind: kind,
		Time: starts[n/3%6], Count: n / 2 % 13, Root: hashes[n/5%7], Prev: hashes[n/7%7],
		Keys: keys, Heirs: heirs, Judge: judge, Frozen: frozen,
	}
	h.Until = h.Time + terms[n/4%5]
	if n%11 == 0 {
		h.Time, h.Until = 100000, 100000
	}
	if len(heirs.List) > 0 {
		h.Wait = []int{1, 2, 10, 499, 500}[n%5]
	}
	return h
}

// validHeads are heads of all kinds, with sets of all sizes and each Need, with
// and without heirs and a judge, frozen and not.
func validHeads() []impl.Head {
	all := []impl.Head{}
	for size := range 4 * 5 * 5 {
		for _, keys := range setsOfSize(size%4+1, size%31+1) {
			for _, heirs := range setsOfSize(size/4%5, size%17+2) {
				for _, judge := range setsOfSize(size/20, size%23+3) {
					for kind := 1; kind <= 3; kind++ {
						all = append(all, headWith(len(all), kind, keys, heirs, judge, false))
						if judge.Need > 0 {
							all = append(all, headWith(len(all), kind, keys, heirs, judge, true))
						}
					}
				}
			}
		}
	}
	return all
}

// fewHeads are some of validHeads, with each form of the sets.
func fewHeads() []impl.Head {
	few := []impl.Head{}
	for i, h := range validHeads() {
		if i%23 == 0 {
			few = append(few, h)
		}
	}
	return few
}

// plainHead has an owner alone, and fullHead everything; no two of their
// numbers are the same.
func plainHead() impl.Head {
	return impl.Head{Zone: 1005, Epoch: 31, Kind: 1, Time: 150, Until: 210, Count: 2, Root: 1007, Prev: 1008, Keys: setOf(1, 3)}
}

func fullHead() impl.Head {
	return impl.Head{Zone: 1005, Epoch: 31, Kind: 3, Time: 150, Until: 210, Count: 6, Root: 1007, Prev: 1008, Keys: setOf(2, 10, 15, 19), Heirs: setOf(1, 20, 24), Wait: 33, Judge: setOf(3, 41, 42, 43, 44), Frozen: true}
}

// changedSets are sets that differ from k in Need, in one key, in a key more or
// less, or in the order of the keys.
func changedSets(k impl.Keys) []impl.Keys {
	list := func(values []int) impl.Keys { return impl.Keys{List: values, Need: k.Need} }
	all := []impl.Keys{{List: k.List, Need: k.Need + 1}, {List: k.List, Need: k.Need - 1}}
	for i, key := range k.List {
		up, down := slices.Clone(k.List), slices.Clone(k.List)
		up[i], down[i] = key+1, key-1
		all = append(all, list(up), list(down), list(slices.Delete(slices.Clone(k.List), i, i+1)))
		if i > 0 {
			turned := slices.Clone(k.List)
			turned[i-1], turned[i] = key, turned[i-1]
			all = append(all, list(turned))
		}
	}
	for i := range len(k.List) + 1 {
		for _, key := range []int{0, 1, 7, 99} {
			all = append(all, list(slices.Insert(slices.Clone(k.List), i, key)))
		}
	}
	return slices.DeleteFunc(all, func(other impl.Keys) bool { return equalKeysByRule(other, k) })
}

// changedHeads are heads that differ from h in one field, by little.
func changedHeads(h impl.Head) []impl.Head {
	all := []impl.Head{}
	for _, n := range headNumbers() {
		for _, d := range []int{1, -1} {
			other := h
			*n.in(&other) += d
			all = append(all, other)
		}
	}
	for _, s := range headSets() {
		for _, k := range changedSets(*s.in(&h)) {
			other := h
			*s.in(&other) = k
			all = append(all, other)
		}
	}
	turned := h
	turned.Frozen = !h.Frozen
	return append(all, turned)
}

// exchangedHeads are heads with two fields of h exchanged: two of the sets, or
// two of the numbers.
func exchangedHeads(h impl.Head) []impl.Head {
	all, sets, numbers := []impl.Head{}, headSets(), headNumbers()
	for i := range sets {
		for j := range i {
			other := h
			a, b := sets[i].in(&other), sets[j].in(&other)
			*a, *b = *b, *a
			all = append(all, other)
		}
	}
	for i := range numbers {
		for j := range i {
			other := h
			a, b := numbers[i].in(&other), numbers[j].in(&other)
			*a, *b = *b, *a
			all = append(all, other)
		}
	}
	return slices.DeleteFunc(all, func(other impl.Head) bool { return equalHeadsByRule(other, h) })
}

func checkHead(t *testing.T, h impl.Head, want bool) {
	t.Helper()
	if got := impl.IsHead(h); got != want {
		t.Errorf("IsHead(%s) is %v", shownHead(h), got)
	}
}

// checkNumbers looks at HeadInts and HeadDigest of a head, valid or not.
func checkNumbers(t *testing.T, h impl.Head) {
	t.Helper()
	got, want := impl.HeadInts(h), headIntsByRule(h)
	if !slices.Equal(got, want) {
		t.Errorf("HeadInts(%s) is %s, want %s", shownHead(h), shownInts(got), shownInts(want))
	}
	if got, want := impl.HeadDigest(h), hashByRule(slices.Concat([]int{233}, want)); got != want {
		t.Errorf("HeadDigest(%s) is %d, want %d", shownHead(h), got, want)
	}
}

func checkEqualHeads(t *testing.T, a impl.Head, b impl.Head, want bool) {
	t.Helper()
	if impl.EqualHeads(a, b) != want || impl.EqualHeads(b, a) != want {
		t.Errorf("%s and %s: EqualHeads is %v, %v", shownHead(a), shownHead(b), impl.EqualHeads(a, b), impl.EqualHeads(b, a))
	}
}

// checkHeadsApart fails if something takes two heads for the same one.
func checkHeadsApart(t *testing.T, a impl.Head, b impl.Head) {
	t.Helper()
	checkEqualHeads(t, a, b, false)
	if slices.Equal(impl.HeadInts(a), impl.HeadInts(b)) {
		t.Errorf("%s and %s have the same HeadInts", shownHead(a), shownHead(b))
	}
	if d := impl.HeadDigest(a); d == impl.HeadDigest(b) {
		t.Errorf("%s and %s have the digest %d", shownHead(a), shownHead(b), d)
	}
}

func TestHeadLimitsAndKinds(t *testing.T) {
	got := []int{impl.MaxEpoch, impl.MaxTime, impl.MaxTerm, impl.MaxWait, impl.HdOwner, impl.HdHeir, impl.HdJudge}
	if !slices.Equal(got, []int{200, 100000, 200, 500, 1, 2, 3}) {
		t.Errorf("MaxEpoch, MaxTime, MaxTerm, MaxWait and the kinds are %v", got)
	}
}

func TestValidHeads(t *testing.T) {
	forms := map[string]int{}
	for _, h := range validHeads() {
		checkHead(t, h, true)
		if !isHeadByRule(h) {
			t.Errorf("%s is not valid by the rule of the tests", shownHead(h))
		}
		for _, s := range headSets() {
			k := s.in(&h)
			forms[fmt.Sprint(s.name, len(k.List), "/", k.Need)]++
		}
		forms[fmt.Sprint("kind ", h.Kind, len(h.Heirs.List) > 0, len(h.Judge.List) > 0, h.Frozen)]++
	}
	// Ten sets of keys and eleven of heirs and of a judge, each with any Need; of
	// each kind, with heirs or not, those without a judge, with one, and frozen.
	if want := 10 + 11 + 11 + 3*2*3; len(forms) != want {
		t.Errorf("the heads have %d forms, want %d: %v", len(forms), want, forms)
	}
}

// Each number of a head at its limits and beyond them, with all others valid.
func TestNumbersOfHeads(t *testing.T) {
	hashes := map[int]bool{math.MinInt: false, -modulus: false, -2: false, -1: false, 0: true, 1: true, 77: true, modulus - 2: true, modulus - 1: true, modulus: false, modulus + 1: false, 1 << 32: false, math.MaxInt: false}
	for _, c := range []struct {
		name  string
		wants map[int]bool
	}{
		{"Zone", hashes}, {"Root", hashes}, {"Prev", hashes},
		{"Epoch", map[int]bool{math.MinInt: false, -200: false, -1: false, 0: true, 1: true, 100: true, 199: true, 200: true, 201: false, 202: false, 1 << 32: false, math.MaxInt: false}},
		{"Kind", map[int]bool{math.MinInt: false, -1: false, 0: false, 1: true, 2: true, 3: true, 4: false, 5: false, 7: false, 257: false, 1<<32 + 1: false, math.MaxInt: false}},
		{"Count", map[int]bool{math.MinInt: false, -1: false, 0: true, 1: true, 6: true, 11: true, 12: true, 13: false, 14: false, 256: false, 1 << 32: false, math.MaxInt: false}},
	} {
		for _, n := range headNumbers() {
			if n.name != c.name {
				continue
			}
			for _, h := range append(fewHeads(), plainHead(), fullHead()) {
				for v, want := range c.wants {
					*n.in(&h) = v
					checkHead(t, h, want)
				}
			}
		}
	}
}

func TestTimesOfHeads(t *testing.T) {
	for _, c := range []struct {
		time, until int
		want        bool
	}{
		{0, 0, true}, {0, 1, true}, {0, 199, true}, {0, 200, true}, {0, 201, false}, {0, 202, false}, {1, 201, true}, {1, 202, false}, {10, 60, true}, {10, 210, true}, {10, 211, false}, {200, 200, true}, {50000, 50200, true}, {50000, 50201, false},
		{100000, 100000, true}, {99999, 100000, true}, {99801, 100000, true}, {99800, 100000, true}, {99799, 100000, false}, {0, 100000, false}, {1, 100000, false},
		// Beyond MaxTime, and before the first time.
		{100000, 100001, false}, {100001, 100001, false}, {99801, 100001, false}, {100001, 100201, false}, {99999, 100001, false}, {-1, 0, false}, {-1, -1, false}, {-1, 1, false}, {-200, 0, false}, {-200, -100, false}, {-100, 100, false},
		// They end before they begin.
		{1, 0, false}, {10, 9, false}, {60, 10, false}, {200, 0, false}, {201, 0, false}, {100000, 99999, false}, {100000, 0, false}, {0, -1, false}, {100001, 100000, false}, {100001, 0, false}, {0, -200, false}, {100, -100, false},
		// Numbers whose difference overflows.
		{math.MinInt, math.MaxInt, false}, {math.MaxInt, math.MinInt, false}, {math.MinInt, 0, false}, {0, math.MinInt, false}, {0, math.MaxInt, false}, {math.MaxInt, 0, false}, {math.MinInt, math.MinInt, false}, {math.MaxInt, math.MaxInt, false}, {math.MinInt, 100000, false}, {100000, math.MinInt, false}, {1, math.MinInt, false}, {math.MaxInt, 100000, false}, {math.MaxInt - 100, math.MaxInt, false}, {math.MaxInt, math.MinInt + 99, false},
		{1 << 32, 1 << 32, false}, {1 << 32, 1<<32 + 100, false}, {0, 1 << 32, false}, {0, 1<<32 + 100, false}, {1 << 32, 100, false}, {-1 << 32, 0, false}, {-1 << 32, 100, false},
	} {
		for _, h := range append(fewHeads(), plainHead(), fullHead()) {
			h.Time, h.Until = c.time, c.until
			checkHead(t, h, c.want)
		}
	}
	times := slices.Concat(edgeNumbers, []int{99, 100, 199, 201, 300, 99799, 99800, 99801, 99999, 100000, 100001, 100200})
	for _, time := range times {
		for _, until := range times {
			h := fullHead()
			h.Time, h.Until = time, until
			checkHead(t, h, isHeadByRule(h))
		}
	}
}

// Every term near MaxTerm and near nothing, from the first time to the last.
func TestTermsOfHeads(t *testing.T) {
	for time := -3; time <= 100003; time += 1 + max(time, 0)%7*61 {
		for _, term := range []int{-201, -200, -199, -2, -1, 0, 1, 2, 198, 199, 200, 201, 202} {
			h := plainHead()
			h.Time, h.Until = time, time+term
			checkHead(t, h, time >= 0 && time+term <= 100000 && term >= 0 && term <= 200)
		}
	}
}

func TestOwnersOfHeads(t *testing.T) {
	heads := append(fewHeads()[:20:20], plainHead(), fullHead())
	for _, k := range append(someKeys(), setOf(1), setOf(0, 5), impl.Keys{List: []int{}}) {
		for _, h := range heads {
			h.Keys = k
			checkHead(t, h, isKeysByRule(k))
		}
	}
}

// Heirs and a judge may be left out, but not in part.
func TestHeirsAndJudgesOfHeads(t *testing.T) {
	half := []impl.Keys{
		setOf(1), setOf(-1), setOf(4), setOf(math.MinInt), setOf(math.MaxInt), {Need: 1, List: []int{}}, setOf(0, 5), setOf(0, 5, 6), setOf(-1, 5), setOf(2, 5), setOf(0, 0),
		setOf(1, 5, 5), setOf(2, 5, 5), setOf(1, 6, 5), setOf(1, 0), setOf(1, 100), setOf(1, -5), setOf(2, 5, 100), setOf(1, 1, 2, 3, 4, 5), setOf(5, 1, 2, 3, 4, 5), setOf(0, 1, 2, 3, 4, 5),
	}
	for _, k := range slices.Concat(half, brokenKeys()) {
		if noKeysByRule(k) {
			continue
		}
		for _, h := range []impl.Head{plainHead(), fullHead()} {
			for _, wait := range []int{-1, 0, 1, 33, 500, 501} {
				for _, frozen := range []bool{false, true} {
					other := h
					other.Wait, other.Frozen = wait, frozen
					other.Heirs = k
					checkHead(t, other, false)
					other = h
					other.Wait, other.Frozen = wait, frozen
					other.Judge = k
					checkHead(t, other, false)
					other.Heirs = k
					checkHead(t, other, false)
				}
			}
		}
	}
	// Whoever owns a zone may be heir and judge as well.
	for _, k := range []impl.Keys{setOf(1, 3), setOf(4, 1, 2, 98, 99), setOf(1, 1, 99)} {
		h := fullHead()
		h.Keys, h.Heirs, h.Judge = k, k, k
		checkHead(t, h, true)
	}
}

// All sets with few keys as heirs and as a judge, beside each other.
func TestHeadsWithAllSmallSets(t *testing.T) {
	sets := []impl.Keys{}
	for _, list := range intLists(2, []int{0, 1, 99, 100}) {
		for need := -1; need <= 3; need++ {
			sets = append(sets, impl.Keys{List: list, Need: need})
		}
	}
	valid := 0
	for _, heirs := range sets {
		for _, judge := range sets {
			for n := range 4 {
				h := plainHead()
				h.Heirs, h.Judge, h.Wait, h.Frozen = heirs, judge, n%2, n > 1
				checkHead(t, h, isHeadByRule(h))
				if impl.IsHead(h) {
					valid++
				}
			}
		}
	}
	// Four sets are valid, and one is zero: the wait is given by the heirs, and
	// only with a judge both values of Frozen are possible.
	if want := 5 * (1 + 4*2); valid != want {
		t.Errorf("%d heads are valid, want %d", valid, want)
	}
}

func TestWaitsOfHeads(t *testing.T) {
	for _, c := range []struct {
		wait           int
		heirs, noHeirs bool
	}{
		{0, false, true}, {1, true, false}, {2, true, false}, {10, true, false}, {499, true, false}, {500, true, false}, {501, false, false}, {502, false, false}, {1000, false, false}, {-1, false, false}, {-500, false, false},
		{math.MinInt, false, false}, {math.MaxInt, false, false}, {1 << 32, false, false}, {1<<32 + 1, false, false}, {-1 << 32, false, false},
	} {
		for _, h := range fewHeads() {
			h.Wait = c.wait
			h.Heirs = setOf(1, 4)
			checkHead(t, h, c.heirs)
			h.Heirs = setOf(4, 1, 2, 98, 99)
			checkHead(t, h, c.heirs)
			h.Heirs = impl.Keys{}
			checkHead(t, h, c.noHeirs)
			h.Heirs = impl.Keys{List: []int{}}
			checkHead(t, h, c.noHeirs)
		}
	}
	for wait := -600; wait <= 1100; wait++ {
		h := fullHead()
		h.Wait = wait
		checkHead(t, h, wait >= 1 && wait <= 500)
		h.Heirs = impl.Keys{}
		checkHead(t, h, wait == 0)
	}
}

// Only a judge can free a zone, so that none is frozen without one.
func TestFrozenHeads(t *testing.T) {
	for _, h := range fewHeads() {
		for _, frozen := range []bool{false, true} {
			h.Frozen = frozen
			h.Judge = impl.Keys{}
			checkHead(t, h, !frozen)
			h.Judge = impl.Keys{List: []int{}}
			checkHead(t, h, !frozen)
			h.Judge = setOf(1, 9)
			checkHead(t, h, true)
			h.Judge = setOf(3, 1, 2, 98, 99)
			checkHead(t, h, true)
			h.Judge = setOf(1)
			checkHead(t, h, false)
			h.Judge = setOf(0, 9)
			checkHead(t, h, false)
		}
	}
}

// Every number in turn is as large and as small as an int allows.
func TestHeadsWithOneNumberOfAnySize(t *testing.T) {
	valid := 0
	for _, h := range append(fewHeads(), plainHead(), fullHead()) {
		for _, n := range headNumbers() {
			for _, v := range slices.Concat(edgeNumbers, []int{n.low - 1, n.low, n.low + 1, n.high - 1, n.high, n.high + 1}) {
				other := h
				*n.in(&other) = v
				want := isHeadByRule(other)
				checkHead(t, other, want)
				if want {
					valid++
				}
				if v < n.low || v > n.high {
					checkHead(t, other, false)
				}
			}
		}
		for _, s := range headSets() {
			for _, v := range edgeNumbers {
				other, k := h, s.in(&h)
				*s.in(&other) = impl.Keys{List: k.List, Need: v}
				checkHead(t, other, isHeadByRule(other))
				*s.in(&other) = impl.Keys{List: append(slices.Clone(k.List), v), Need: 1}
				checkHead(t, other, isHeadByRule(other))
			}
		}
	}
	if valid == 0 {
		t.Error("no head was valid")
	}
}

// Two numbers at once are as large and as small as an int allows.
func TestHeadsWithTwoNumbersOfAnySize(t *testing.T) {
	numbers := headNumbers()
	for i, n := range numbers {
		for _, m := range numbers[:i] {
			for _, v := range edgeNumbers {
				for _, w := range edgeNumbers {
					h := fullHead()
					*n.in(&h), *m.in(&h) = v, w
					checkHead(t, h, isHeadByRule(h))
				}
			}
		}
	}
}

func TestIsHeadOfHeadsThatDifferALittle(t *testing.T) {
	valid := 0
	for _, h := range append(fewHeads(), plainHead(), fullHead(), impl.Head{}) {
		for _, other := range slices.Concat(changedHeads(h), exchangedHeads(h)) {
			checkHead(t, other, isHeadByRule(other))
			if impl.IsHead(other) {
				valid++
			}
		}
	}
	if valid < 1000 {
		t.Errorf("%d changed heads are valid", valid)
	}
	checkHead(t, impl.Head{}, false)
	checkHead(t, impl.Head{Kind: 1, Keys: setOf(1, 1)}, true)
}

func TestNoKeys(t *testing.T) {
	for _, c := range []struct {
		k    impl.Keys
		want bool
	}{
		{impl.Keys{}, true}, {impl.Keys{List: []int{}}, true}, {impl.Keys{List: []int{1, 2, 3}[:0]}, true}, {impl.Keys{List: make([]int, 0, 5)}, true},
		{setOf(1), false}, {setOf(-1), false}, {setOf(4), false}, {setOf(math.MinInt), false}, {setOf(math.MaxInt), false}, {setOf(1 << 32), false}, {setOf(256), false}, {impl.Keys{List: []int{}, Need: 1}, false},
		{setOf(0, 0), false}, {setOf(0, 1), false}, {setOf(0, -1), false}, {setOf(0, 100), false}, {setOf(0, 1, 2), false}, {setOf(0, 0, 0), false}, {setOf(0, 1, 2, 3, 4, 5), false}, {setOf(0, slices.Repeat([]int{0}, 256)...), false}, {setOf(0, make([]int, 1<<16)...), false},
		{setOf(1, 3), false}, {setOf(4, 1, 2, 3, 4), false}, {setOf(2, 5, 5), false}, {setOf(1, 0), false}, {setOf(-1, 7), false}, {setOf(1, 9, 5), false},
	} {
		if got := impl.NoKeys(c.k); got != c.want {
			t.Errorf("NoKeys of Need %d and %.20v is %v", c.k.Need, c.k.List, got)
		}
	}
	for _, k := range someKeys() {
		if got := impl.NoKeys(k); got != noKeysByRule(k) || got && impl.IsKeys(k) {
			t.Errorf("NoKeys of Need %d and %.20v is %v", k.Need, k.List, got)
		}
	}
	for _, list := range intLists(2, edgeSetKeys) {
		for _, need := range edgeNeeds {
			if got := impl.NoKeys(impl.Keys{List: list, Need: need}); got != (need == 0 && len(list) == 0) {
				t.Errorf("NoKeys of Need %d and %v is %v", need, list, got)
			}
		}
	}
}

func TestHeadInts(t *testing.T) {
	for _, c := range []struct {
		h    impl.Head
		want []int
	}{
		{plainHead(), []int{1005, 31, 1, 150, 210, 2, 1007, 1008, 1, 1, 3, 0, 0, 0, 0, 0, 0}},
		{fullHead(), []int{1005, 31, 3, 150, 210, 6, 1007, 1008, 2, 3, 10, 15, 19, 1, 2, 20, 24, 33, 3, 4, 41, 42, 43, 44, 1}},
		{impl.Head{}, make([]int, 16)},
		{impl.Head{Frozen: true}, []int{0, 0, 0, 0, 0, 0, 0, 0, 0, 0, 0, 0, 0, 0, 0, 1}},
		{impl.Head{Zone: -1, Epoch: -2, Kind: -3, Time: -4, Until: -5, Count: -6, Root: -7, Prev: -8, Keys: setOf(-9, -10), Heirs: setOf(-11, -12, -13), Wait: -14, Judge: setOf(-15)}, []int{-1, -2, -3, -4, -5, -6, -7, -8, -9, 1, -10, -11, 2, -12, -13, -14, -15, 0, 0}},
		{impl.Head{Zone: math.MaxInt, Until: math.MinInt, Prev: modulus, Keys: setOf(math.MinInt, math.MaxInt), Wait: math.MaxInt}, []int{math.MaxInt, 0, 0, 0, math.MinInt, 0, 0, modulus, math.MinInt, 1, math.MaxInt, 0, 0, math.MaxInt, 0, 0, 0}},
	} {
		if got := impl.HeadInts(c.h); !slices.Equal(got, c.want) {
			t.Errorf("HeadInts(%s) is %v, want %v", shownHead(c.h), got, c.want)
		}
	}
}

func TestNumbersOfAllHeads(t *testing.T) {
	for _, h := range validHeads() {
		checkNumbers(t, h)
		got := impl.HeadInts(h)
		sets := slices.Concat([]int{h.Keys.Need, len(h.Keys.List)}, h.Keys.List, []int{h.Heirs.Need, len(h.Heirs.List)}, h.Heirs.List, []int{h.Wait, h.Judge.Need, len(h.Judge.List)}, h.Judge.List)
		if !slices.Equal(got[:8], []int{h.Zone, h.Epoch, h.Kind, h.Time, h.Until, h.Count, h.Root, h.Prev}) || !slices.Equal(got[8:len(got)-1], sets) || (got[len(got)-1] == 1) != h.Frozen {
			t.Errorf("HeadInts(%s) is %v", shownHead(h), got)
		}
		if d := impl.HeadDigest(h); d != impl.Hash(slices.Concat([]int{233}, got)) || d < 0 || d >= modulus {
			t.Errorf("HeadDigest(%s) is %d", shownHead(h), d)
		}
	}
}

// The numbers of heads that are not valid are those of their fields, too.
func TestNumbersOfInvalidHeads(t *testing.T) {
	for _, h := range []impl.Head{plainHead(), fullHead(), {}} {
		for _, n := range headNumbers() {
			for _, v := range slices.Concat(edgeNumbers, edgeKeys) {
				other := h
				*n.in(&other) = v
				checkNumbers(t, other)
			}
		}
		for _, s := range headSets() {
			for _, k := range someKeys() {
				other := h
				*s.in(&other) = k
				checkNumbers(t, other)
			}
		}
		for _, other := range slices.Concat(changedHeads(h), exchangedHeads(h)) {
			checkNumbers(t, other)
		}
	}
}

func TestHeadDigest(t *testing.T) {
	for _, c := range []struct {
		h    impl.Head
		list []int
	}{
		{impl.Head{}, []int{233, 0, 0, 0, 0, 0, 0, 0, 0, 0, 0, 0, 0, 0, 0, 0, 0}},
		{plainHead(), []int{233, 1005, 31, 1, 150, 210, 2, 1007, 1008, 1, 1, 3, 0, 0, 0, 0, 0, 0}},
		{fullHead(), []int{233, 1005, 31, 3, 150, 210, 6, 1007, 1008, 2, 3, 10, 15, 19, 1, 2, 20, 24, 33, 3, 4, 41, 42, 43, 44, 1}},
	} {
		if got := impl.HeadDigest(c.h); got != impl.Hash(c.list) || got != hashByRule(c.list) || got == impl.Hash(c.list[1:]) {
			t.Errorf("HeadDigest(%s) is %d", shownHead(c.h), got)
		}
	}
}

// This is promise 13: a head that differs in any one field, or has two fields
// exchanged, has another digest. Both heads of a pair are valid for most pairs.
func TestHeadsAreToldApartByTheirDigests(t *testing.T) {
	valid := 0
	for _, h := range append(validHeads(), plainHead(), fullHead()) {
		digest, values := impl.HeadDigest(h), impl.HeadInts(h)
		for _, other := range slices.Concat(changedHeads(h), exchangedHeads(h)) {
			if impl.HeadDigest(other) == digest || slices.Equal(impl.HeadInts(other), values) || impl.EqualHeads(h, other) || impl.EqualHeads(other, h) {
				t.Errorf("%s and %s are not told apart", shownHead(h), shownHead(other))
			}
			if impl.IsHead(other) {
				valid++
			}
		}
	}
	if valid < 50000 {
		t.Errorf("%d changed heads are valid", valid)
	}
}

// No two of many valid heads have the same digest, and equal ones have.
func TestDigestsOfManyHeads(t *testing.T) {
	seen := map[int]impl.Head{}
	for _, h := range validHeads() {
		h.Root = seenNumber(len(seen))
		d := impl.HeadDigest(h)
		if other, found := seen[d]; found && !equalHeadsByRule(h, other) {
			t.Errorf("%s and %s have the digest %d", shownHead(h), shownHead(other), d)
		}
		seen[d] = h
		again := copiedHead(h)
		if impl.HeadDigest(again) != d || !impl.EqualHeads(h, again) || !slices.Equal(impl.HeadInts(h), impl.HeadInts(again)) {
			t.Errorf("%s is not its copy", shownHead(h))
		}
	}
}

// seenNumber is a number that looks like a hash.
func seenNumber(n int) int {
	return n * n * 7919 % modulus
}

// Fields that are next to each other, or have the same form, are not mistaken
// for one another.
func TestHeadsThatAreAlmostTheSame(t *testing.T) {
	one, two, none := setOf(1, 3), setOf(1, 4), impl.Keys{}
	head := func(keys impl.Keys, heirs impl.Keys, wait int, judge impl.Keys, frozen bool) impl.Head {
		h := plainHead()
		h.Keys, h.Heirs, h.Wait, h.Judge, h.Frozen = keys, heirs, wait, judge, frozen
		return h
	}
	for _, c := range []struct {
		name string
		a, b impl.Head
	}{
		{"heirs and a judge exchanged", head(one, one, 1, two, false), head(one, two, 1, one, false)},
		{"keys and heirs exchanged", head(one, two, 1, none, false), head(two, one, 1, none, false)},
		{"keys and a judge exchanged", head(one, none, 0, two, false), head(two, none, 0, one, false)},
		{"all three moved on", head(one, two, 7, setOf(1, 5), true), head(two, setOf(1, 5), 7, one, true)},
		{"a judge in place of heirs", head(one, two, 1, none, false), head(one, none, 0, two, false)},
		{"a key moved from the owners to the heirs", head(setOf(1, 3, 4), setOf(1, 5), 1, none, false), head(setOf(1, 3), setOf(1, 4, 5), 1, none, false)},
		{"a key moved from the heirs to the judge", head(one, setOf(1, 3, 4), 1, setOf(1, 5), false), head(one, setOf(1, 3), 1, setOf(1, 4, 5), false)},
		{"the wait as a key", head(one, setOf(1, 3, 4), 5, none, false), head(one, setOf(1, 3), 4, none, false)},
		{"frozen and not", head(one, none, 0, two, true), head(one, none, 0, two, false)},
		{"frozen in place of a longer wait", head(one, two, 1, two, true), head(one, two, 2, two, false)},
		{"Need of the owners and of the heirs", head(setOf(1, 3, 4), setOf(2, 3, 4), 1, none, false), head(setOf(2, 3, 4), setOf(1, 3, 4), 1, none, false)},
		{"Need of the heirs and of the judge", head(one, setOf(1, 3, 4), 1, setOf(2, 3, 4), false), head(one, setOf(2, 3, 4), 1, setOf(1, 3, 4), false)},
	} {
		if !impl.IsHead(c.a) || !impl.IsHead(c.b) {
			t.Errorf("%s: %s or %s is not valid", c.name, shownHead(c.a), shownHead(c.b))
		}
		checkHeadsApart(t, c.a, c.b)
	}
}

// Hash itself gives some different heads the same number: they have the same
// digest by its definition, but are not the same heads.
func TestHeadsThatHashDoesNotTellApart(t *testing.T) {
	numbers := headNumbers()
	pairs := 0
	for _, h := range append(fewHeads(), plainHead(), fullHead()) {
		for i := range 7 {
			for _, d := range []int{-1, 1} {
				// The next number is multiplied by the factor once less.
				other := h
				*numbers[i].in(&other) += d
				*numbers[i+1].in(&other) -= d * 1000003
				checkSameDigestOnly(t, h, other)
				if impl.IsHead(other) {
					pairs++
				}
			}
		}
		for _, n := range numbers {
			for _, d := range []int{modulus, -modulus, 1000 * modulus} {
				other := h
				*n.in(&other) += d
				checkSameDigestOnly(t, h, other)
				checkHead(t, other, false)
			}
		}
	}
	if pairs < 50 {
		t.Errorf("%d such heads are valid", pairs)
	}
}

func checkSameDigestOnly(t *testing.T, a impl.Head, b impl.Head) {
	t.Helper()
	if impl.HeadDigest(a) != impl.HeadDigest(b) || impl.HeadDigest(b) != headDigestByRule(b) {
		t.Errorf("%s and %s have the digests %d and %d", shownHead(a), shownHead(b), impl.HeadDigest(a), impl.HeadDigest(b))
	}
	if slices.Equal(impl.HeadInts(a), impl.HeadInts(b)) {
		t.Errorf("%s and %s have the same HeadInts", shownHead(a), shownHead(b))
	}
	checkEqualHeads(t, a, b, false)
}

func TestIsFresh(t *testing.T) {
	for _, c := range []struct {
		time, until, now int
		want             bool
	}{
		{10, 60, 9, false}, {10, 60, 10, true}, {10, 60, 11, true}, {10, 60, 35, true}, {10, 60, 59, true}, {10, 60, 60, true}, {10, 60, 61, false}, {10, 60, 0, false}, {10, 60, -10, false}, {10, 60, -35, false}, {10, 60, 1<<32 + 35, false}, {10, 60, math.MinInt, false}, {10, 60, math.MaxInt, false},
		{0, 0, 0, true}, {0, 0, 1, false}, {0, 0, -1, false}, {7, 7, 7, true}, {7, 7, 6, false}, {7, 7, 8, false}, {100000, 100000, 100000, true}, {100000, 100000, 100001, false}, {99800, 100000, 99799, false}, {99800, 100000, 99800, true},
		// A head that ends before it begins is never fresh.
		{60, 10, 9, false}, {60, 10, 10, false}, {60, 10, 35, false}, {60, 10, 60, false}, {60, 10, 61, false}, {1, 0, 0, false}, {1, 0, 1, false}, {10, 9, 9, false}, {10, 9, 10, false}, {0, -1, 0, false}, {0, -1, -1, false},
		{math.MaxInt, math.MinInt, 0, false}, {math.MaxInt, math.MinInt, math.MaxInt, false}, {math.MaxInt, math.MinInt, math.MinInt, false}, {math.MaxInt, 0, 0, false}, {0, math.MinInt, 0, false}, {0, math.MinInt, math.MinInt, false},
		// The head need not be valid: only its two times count.
		{0, 300, 250, true}, {0, 300, 301, false}, {-10, 5, -10, true}, {-10, 5, -11, false}, {-10, 5, 0, true}, {-10, -5, -7, true}, {-10, -5, 0, false}, {200000, 200001, 200001, true}, {0, math.MaxInt, math.MaxInt, true}, {0, math.MaxInt, -1, false}, {math.MinInt, 0, math.MinInt, true}, {math.MinInt, 0, 1, false},
		{math.MinInt, math.MaxInt, 0, true}, {math.MinInt, math.MaxInt, math.MinInt, true}, {math.MinInt, math.MaxInt, math.MaxInt, true}, {math.MinInt, math.MinInt, math.MinInt, true}, {math.MinInt, math.MinInt, math.MaxInt, false}, {math.MaxInt, math.MaxInt, math.MaxInt, true}, {math.MaxInt, math.MaxInt, math.MinInt, false}, {math.MaxInt, math.MaxInt, math.MaxInt - 1, false},
	} {
		for _, h := range []impl.Head{plainHead(), fullHead(), {}, {Zone: -1, Epoch: 999, Kind: 9, Count: -5, Wait: -1, Frozen: true}} {
			h.Time, h.Until = c.time, c.until
			if got := impl.IsFresh(h, c.now); got != c.want {
				t.Errorf("IsFresh(%s, %d) is %v", shownHead(h), c.now, got)
			}
		}
	}
}

func TestFreshAtAllTimes(t *testing.T) {
	for _, time := range edgeNumbers {
		for _, until := range edgeNumbers {
			for _, now := range edgeNumbers {
				h := fullHead()
				h.Time, h.Until = time, until
				if got := impl.IsFresh(h, now); got != (time <= now && now <= until) {
					t.Errorf("IsFresh from %d until %d, at %d, is %v", time, until, now, got)
				}
			}
		}
	}
	for _, h := range fewHeads() {
		fresh := 0
		for now := h.Time - 5; now <= h.Until+5; now++ {
			if impl.IsFresh(h, now) {
				fresh++
			}
		}
		if fresh != h.Until-h.Time+1 || impl.IsFresh(h, h.Time-1) || impl.IsFresh(h, h.Until+1) {
			t.Errorf("%s is fresh at %d times", shownHead(h), fresh)
		}
	}
}

func TestEqualHeads(t *testing.T) {
	empty := impl.Head{Keys: impl.Keys{List: []int{}}, Heirs: impl.Keys{List: []int{}}, Judge: impl.Keys{List: make([]int, 0, 9)}}
	emptied := plainHead()
	emptied.Heirs.List, emptied.Judge.List = []int{}, []int{}
	owned := impl.Head{Keys: setOf(0, 0)}
	for _, c := range []struct {
		a, b impl.Head
		want bool
	}{
		{impl.Head{}, impl.Head{}, true}, {impl.Head{}, empty, true}, {plainHead(), plainHead(), true}, {plainHead(), emptied, true}, {fullHead(), fullHead(), true}, {plainHead(), fullHead(), false}, {impl.Head{}, plainHead(), false}, {empty, fullHead(), false},
		// They need not be valid.
		{impl.Head{Zone: -1}, impl.Head{Zone: -1}, true}, {impl.Head{Time: math.MaxInt}, impl.Head{Time: math.MaxInt}, true}, {impl.Head{Time: math.MaxInt}, impl.Head{Time: math.MinInt}, false}, {impl.Head{Frozen: true}, impl.Head{Frozen: true}, true}, {impl.Head{Frozen: true}, impl.Head{}, false},
		{impl.Head{Keys: setOf(3)}, impl.Head{Keys: impl.Keys{List: []int{}, Need: 3}}, true}, {impl.Head{Heirs: setOf(-1, 9, 9)}, impl.Head{Heirs: setOf(-1, 9, 9)}, true}, {impl.Head{Judge: setOf(0, 5)}, impl.Head{Judge: setOf(0, 5)}, true}, {owned, impl.Head{}, false}, {owned, impl.Head{Keys: setOf(0, 0, 0)}, false}, {owned, impl.Head{Heirs: setOf(0, 0)}, false}, {impl.Head{Heirs: setOf(0, 0)}, impl.Head{Judge: setOf(0, 0)}, false},
		{impl.Head{Wait: 1}, impl.Head{Judge: setOf(1)}, false}, {impl.Head{Heirs: setOf(1)}, impl.Head{Keys: setOf(1)}, false}, {impl.Head{Prev: 1}, impl.Head{Keys: setOf(1)}, false}, {impl.Head{Judge: setOf(1)}, impl.Head{Frozen: true}, false},
		{impl.Head{Keys: setOf(1, 2, 2)}, impl.Head{Keys: setOf(1, 2)}, false}, {impl.Head{Keys: setOf(1, 5, 2)}, impl.Head{Keys: setOf(1, 2, 5)}, false},
	} {
		checkEqualHeads(t, c.a, c.b, c.want)
		if got := equalHeadsByRule(c.a, c.b); got != c.want {
			t.Errorf("%s and %s: the rule of the tests is %v", shownHead(c.a), shownHead(c.b), got)
		}
	}
}

// Each field of each part in turn is changed, also by what a hash or fewer bits
// would not show.
func TestEqualHeadsWithOneChange(t *testing.T) {
	negative := impl.Head{Zone: -5, Epoch: -5, Kind: -5, Time: -5, Until: -50, Count: -5, Root: -5, Prev: -5, Keys: setOf(-5, 9, 9, 0, 1, 2), Heirs: setOf(7), Wait: -5, Judge: setOf(0, 5), Frozen: true}
	for _, h := range append(fewHeads(), plainHead(), fullHead(), impl.Head{}, negative) {
		checkEqualHeads(t, h, copiedHead(h), true)
		for _, other := range slices.Concat(changedHeads(h), exchangedHeads(h)) {
			checkEqualHeads(t, h, other, false)
			checkEqualHeads(t, other, copiedHead(other), true)
		}
		for _, n := range headNumbers() {
			for _, d := range []int{256, 1 << 16, 1 << 32, -1 << 32, math.MinInt, modulus, -modulus, 2 * modulus} {
				other := h
				*n.in(&other) += d
				checkEqualHeads(t, h, other, false)
			}
		}
		for _, s := range headSets() {
			for _, d := range []int{1 << 32, math.MinInt, modulus} {
				other := copiedHead(h)
				s.in(&other).Need += d
				checkEqualHeads(t, h, other, false)
				for i := range s.in(&h).List {
					other = copiedHead(h)
					s.in(&other).List[i] += d
					checkEqualHeads(t, h, other, false)
				}
			}
		}
	}
}

// Heads of all small sets and numbers: only a head itself is equal to it.
func TestEqualHeadsOfAllPairs(t *testing.T) {
	sets := []impl.Keys{{}, {List: []int{}}, setOf(1), setOf(0, 0), setOf(0, 1), setOf(1, 0), setOf(1, 1)}
	all := []impl.Head{}
	for _, keys := range sets {
		for _, heirs := range sets {
			for _, judge := range sets {
				for n := range 4 {
					all = append(all, impl.Head{Keys: keys, Heirs: heirs, Wait: n % 2, Judge: judge, Frozen: n > 1})
				}
			}
		}
	}
	equal := 0
	for _, a := range all {
		for _, b := range all {
			got := impl.EqualHeads(a, b)
			if got != equalHeadsByRule(a, b) {
				t.Errorf("EqualHeads(%s, %s) is %v", shownHead(a), shownHead(b), got)
			}
			if got {
				equal++
			}
		}
	}
	// Of seven sets two are equal, so nine of 49 pairs are.
	if want := 4 * 9 * 9 * 9; equal != want {
		t.Errorf("%d pairs are equal, want %d", equal, want)
	}
}

// copiedHead returns h with lists of its own.
func copiedHead(h impl.Head) impl.Head {
	for _, s := range headSets() {
		s.in(&h).List = slices.Clone(s.in(&h).List)
	}
	return h
}

// spareHead returns h with spare capacity behind each of its lists.
func spareHead(h impl.Head) impl.Head {
	for _, s := range headSets() {
		*s.in(&h), _ = spareKeys(*s.in(&h))
	}
	return h
}

// wholeHead returns a copy of h with all that each of its lists reaches.
func wholeHead(h impl.Head) impl.Head {
	for _, s := range headSets() {
		list := s.in(&h).List
		s.in(&h).List = list[:cap(list)]
	}
	return copiedHead(h)
}

func TestHeadFunctionsLeaveTheirArguments(t *testing.T) {
	for _, start := range append(fewHeads(), plainHead(), fullHead(), impl.Head{}, impl.Head{Zone: -1, Keys: setOf(9, 5, 5, 3, 0, -1), Heirs: setOf(2), Judge: setOf(0, 9)}) {
		h, other := spareHead(start), spareHead(start)
		before, otherBefore := wholeHead(h), wholeHead(other)
		impl.IsHead(h)
		impl.HeadDigest(h)
		impl.IsFresh(h, 10)
		impl.NoKeys(h.Keys)
		impl.NoKeys(h.Heirs)
		impl.NoKeys(h.Judge)
		impl.EqualHeads(h, other)
		impl.EqualHeads(h, impl.Head{})
		overwriteInts(impl.HeadInts(h))
		if !equalHeadsByRule(wholeHead(h), before) || !equalHeadsByRule(wholeHead(other), otherBefore) {
			t.Errorf("a function wrote into %s or its spare capacity, or shares memory with it", shownHead(start))
		}
	}
}

// The three sets of a head are parts of one memory, one behind the other.
func TestHeadsWhoseListsShareMemory(t *testing.T) {
	whole := []int{3, 7, 20, 24, 41, 42, -12345, -12345, -12345}
	h := fullHead()
	h.Keys, h.Heirs, h.Judge = impl.Keys{List: whole[:2], Need: 2}, impl.Keys{List: whole[2:4], Need: 1}, impl.Keys{List: whole[4:6], Need: 1}
	want := []int{1005, 31, 3, 150, 210, 6, 1007, 1008, 2, 2, 3, 7, 1, 2, 20, 24, 33, 1, 2, 41, 42, 1}
	digest := impl.Hash(slices.Concat([]int{233}, want))
	for range 3 {
		values := impl.HeadInts(h)
		if !slices.Equal(values, want) || impl.HeadDigest(h) != digest || !impl.IsHead(h) || !impl.EqualHeads(h, copiedHead(h)) {
			t.Errorf("HeadInts(%s) is %v, want %v", shownHead(h), values, want)
		}
		overwriteInts(values)
	}
	if !slices.Equal(whole, []int{3, 7, 20, 24, 41, 42, -12345, -12345, -12345}) {
		t.Errorf("a function wrote into the memory of the lists: %v", whole)
	}
	h.Heirs, h.Judge = h.Keys, h.Keys
	if got := impl.HeadInts(h); !slices.Equal(got, []int{1005, 31, 3, 150, 210, 6, 1007, 1008, 2, 2, 3, 7, 2, 2, 3, 7, 33, 2, 2, 3, 7, 1}) {
		t.Errorf("HeadInts(%s) is %v", shownHead(h), got)
	}
}

// What is done to an argument or to another result does not reach a result.
func TestNumbersOfHeadsAreTheirOwn(t *testing.T) {
	for _, start := range append(fewHeads(), plainHead(), fullHead(), impl.Head{}) {
		h := spareHead(start)
		values, again := impl.HeadInts(h), impl.HeadInts(h)
		overwriteInts(again)
		for _, s := range headSets() {
			overwriteInts(s.in(&h).List)
		}
		if !slices.Equal(values, headIntsByRule(start)) {
			t.Errorf("HeadInts(%s) changed afterwards to %v", shownHead(start), values)
		}
	}
}

// A result does not depend on the spare capacity of the lists.
func TestHeadsWithSpareCapacity(t *testing.T) {
	for _, h := range append(fewHeads(), plainHead(), fullHead(), impl.Head{}) {
		spare := spareHead(h)
		checkNumbers(t, spare)
		checkHead(t, spare, isHeadByRule(h))
		checkEqualHeads(t, h, spare, true)
		if impl.HeadDigest(spare) != impl.HeadDigest(h) || impl.NoKeys(spare.Heirs) != noKeysByRule(h.Heirs) || impl.NoKeys(spare.Judge) != noKeysByRule(h.Judge) {
			t.Errorf("%s is another head with spare capacity", shownHead(h))
		}
	}
}

// Every function returns for arguments of any size.
func TestLargeHeads(t *testing.T) {
	large := fullHead()
	large.Keys, large.Heirs, large.Judge = setOf(50000, dataInts(100000)...), setOf(-1, dataInts(70001)...), setOf(math.MaxInt, dataInts(100)...)
	checkNumbers(t, large)
	checkHead(t, large, false)
	checkEqualHeads(t, large, copiedHead(large), true)
	for _, s := range headSets() {
		h := fullHead()
		*s.in(&h) = *s.in(&large)
		checkHead(t, h, false)
		checkEqualHeads(t, h, large, false)
		if impl.NoKeys(*s.in(&h)) {
			t.Errorf("there are no %s among %d", s.name, len(s.in(&h).List))
		}
		other := copiedHead(large)
		list := s.in(&other).List
		list[len(list)-1]++
		checkHeadsApart(t, large, other)
		s.in(&other).List = list[:len(list)-1]
		checkHeadsApart(t, large, other)
	}
}
