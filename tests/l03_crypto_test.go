package tests

import (
	"bytes"
	"math"
	"math/big"
	"slices"
	"strings"
	"testing"

	"loop.example/g00588/impl"
)

const modulus = 2147483647

// edgeKeys are keys at the limits of IsValidKey, of an int and of the modulus.
var edgeKeys = []int{
	math.MinInt, math.MinInt + 1, -modulus - 1, -modulus, -modulus + 1, -77, -1, 0, 1, 2, 77, 256, 1000003,
	modulus/2 - 1, modulus / 2, modulus - 2, modulus - 1, modulus, modulus + 1, 2 * modulus, 2*modulus + 1,
	impl.MaxValue, impl.MaxValue + 1, math.MaxInt - 1, math.MaxInt,
}

// hashedLists are lists of values of several lengths and sizes.
var hashedLists = [][]int{
	nil, {}, {0}, {5}, {-5}, {0, 0}, {1, 2}, {2, 1}, {1, 2, 3}, {-1, modulus, -modulus, 2 * modulus},
	{math.MinInt}, {math.MaxInt}, {math.MinInt, math.MaxInt, math.MinInt, math.MaxInt}, {modulus - 1, modulus - 1, modulus - 1},
	edgeKeys, make([]int, 300),
}

// plaintexts are byte strings of several lengths, some longer than the 256
// values of a byte.
func plaintexts() [][]byte {
	all := make([]byte, 1000)
	for i := range all {
		all[i] = byte(i*7 + i/256)
	}
	return [][]byte{
		nil, {}, {0}, {255}, {128}, {0, 0}, {255, 255, 255}, []byte("hello"), []byte("\xff\x00\xfe"),
		make([]byte, 600), bytes.Repeat([]byte{255}, 257), all,
	}
}

// hashByRule follows the document's words, with integers of any size.
func hashByRule(values []int) int {
	q := big.NewInt(modulus)
	sum := big.NewInt(11)
	for _, v := range values {
		sum.Mul(sum, big.NewInt(1000003))
		sum.Add(sum, new(big.Int).Mod(big.NewInt(int64(v)), q))
		sum.Add(sum, big.NewInt(13))
		sum.Mod(sum, q)
	}
	return int(sum.Int64())
}

func keyedByRule(key int, values []int) int {
	return hashByRule(slices.Concat([]int{key}, values, []int{key}))
}

// spareInts returns values with spare capacity, and the whole memory behind it.
func spareInts(values []int) ([]int, []int) {
	whole := append(slices.Clone(values), make([]int, 40)...)
	for i := len(values); i < len(whole); i++ {
		whole[i] = -12345
	}
	return whole[:len(values)], whole
}

// valuesOf is what BytesToInts returns by the document's words.
func valuesOf(s string) []int {
	values := []int{len(s)}
	for i := range len(s) {
		values = append(values, int(s[i]))
	}
	return values
}

func TestModulus(t *testing.T) {
	if impl.Modulus != modulus {
		t.Errorf("Modulus is %d", impl.Modulus)
	}
}

func TestHash(t *testing.T) {
	for _, c := range []struct {
		values []int
		want   int
	}{
		{nil, 11}, {[]int{}, 11}, {[]int{5}, 11000051}, {[]int{0}, 11000046}, {[]int{1}, 11000047},
		{[]int{-1}, 11000045}, {[]int{-2}, 11000044},
		{[]int{modulus}, 11000046}, {[]int{2 * modulus}, 11000046}, {[]int{-modulus}, 11000046}, {[]int{5 + modulus}, 11000051}, {[]int{5 - modulus}, 11000051},
		{[]int{modulus - 1}, 11000045}, {[]int{modulus + 1}, 11000047},
		{[]int{math.MinInt}, 11000044}, {[]int{math.MaxInt}, 11000047},
		{[]int{modulus - 11000046}, 0}, {[]int{-11000046}, 0}, {[]int{-11000047}, modulus - 1},
		{[]int{1, 2, 3}, 1460866530}, {[]int{-5, 5}, 662760207}, {[]int{3, 4, 3}, 20107550},
	} {
		if got := impl.Hash(c.values); got != c.want {
			t.Errorf("Hash(%v) is %d, want %d", c.values, got, c.want)
		}
	}
}

func TestHashFollowsTheRule(t *testing.T) {
	lists := slices.Clone(hashedLists)
	for _, v := range edgeKeys {
		for _, w := range edgeKeys {
			lists = append(lists, []int{v}, []int{v, w}, []int{v, w, v})
		}
	}
	for n := range 200 {
		long := []int{}
		for i := range n {
			long = append(long, (i*i*n-5000)*(modulus/3+n))
		}
		lists = append(lists, long)
	}
	for _, values := range lists {
		got := impl.Hash(values)
		if want := hashByRule(values); got != want {
			t.Errorf("Hash(%v) is %d, want %d", values, got, want)
		}
		if got < 0 || got >= modulus {
			t.Errorf("Hash(%v) is %d, outside of its range", values, got)
		}
	}
}

func TestHashDependsOnTheOrder(t *testing.T) {
	for _, c := range [][2][]int{{{1, 2}, {2, 1}}, {{0}, {0, 0}}, {nil, {0}}, {{1, 2, 3}, {1, 3, 2}}, {{-1, 1}, {1, -1}}} {
		if impl.Hash(c[0]) == impl.Hash(c[1]) {
			t.Errorf("%v and %v have the same hash", c[0], c[1])
		}
	}
}

func TestKeyedHash(t *testing.T) {
	for _, c := range []struct {
		key    int
		values []int
		want   int
	}{
		{3, []int{4}, 20107550}, {77, []int{0}, 321116305}, {77, []int{1}, 322116308}, {5, []int{2, 97, 98}, 1905036959},
	} {
		if got := impl.KeyedHash(c.key, c.values); got != c.want {
			t.Errorf("KeyedHash(%d, %v) is %d, want %d", c.key, c.values, got, c.want)
		}
	}
	for _, key := range edgeKeys {
		for _, values := range hashedLists {
			got := impl.KeyedHash(key, values)
			if want := keyedByRule(key, values); got != want || got != impl.Hash(slices.Concat([]int{key}, values, []int{key})) {
				t.Errorf("KeyedHash(%d, %v) is %d, want %d", key, values, got, want)
			}
			if got < 0 || got >= modulus {
				t.Errorf("KeyedHash(%d, %v) is %d, outside of its range", key, values, got)
			}
		}
	}
}

// isSame reports whether two values are equal modulo Modulus; their difference
// may be greater than an int.
func isSame(v int, w int) bool {
	d := new(big.Int).Sub(big.NewInt(int64(v)), big.NewInt(int64(w)))
	return d.Mod(d, big.NewInt(modulus)).Sign() == 0
}

func TestKeyedHashDependsOnEachValue(t *testing.T) {
	for _, key := range edgeKeys {
		for _, values := range [][]int{{0}, {5}, {-5}, {1, 2}, {0, 0, 0}, {math.MinInt, 7, math.MaxInt}, {modulus, -modulus}, make([]int, 12)} {
			before := impl.KeyedHash(key, values)
			for i, old := range values {
				for _, v := range edgeKeys {
					changed := slices.Clone(values)
					changed[i] = v
					got := impl.KeyedHash(key, changed)
					if (got == before) != isSame(old, v) {
						t.Errorf("KeyedHash(%d, %v) is %d, and %d with %d at index %d", key, values, before, got, v, i)
					}
				}
			}
		}
	}
}

// No power of the factor is -1 modulo Modulus, so the two places of a key never
// cancel each other out.
func TestKeyedHashDependsOnTheKey(t *testing.T) {
	for _, values := range [][]int{nil, {0}, {-5}, {1, 2, 3}, {math.MinInt, math.MaxInt}, make([]int, 50)} {
		for _, key := range edgeKeys {
			for _, other := range edgeKeys {
				if (impl.KeyedHash(key, values) == impl.KeyedHash(other, values)) != isSame(key, other) {
					t.Errorf("the keys %d and %d with the values %v", key, other, values)
				}
			}
		}
	}
}

func TestIsValidKey(t *testing.T) {
	for _, c := range []struct {
		key  int
		want bool
	}{
		{1, true}, {2, true}, {77, true}, {modulus / 2, true}, {modulus - 2, true}, {modulus - 1, true},
		{0, false}, {-1, false}, {-77, false}, {modulus, false}, {modulus + 1, false}, {2 * modulus, false}, {-modulus, false}, {-modulus + 1, false},
		{1 << 31, false}, {1<<32 + 1, false}, {math.MinInt, false}, {math.MinInt + 1, false}, {math.MaxInt, false},
	} {
		if got := impl.IsValidKey(c.key); got != c.want {
			t.Errorf("IsValidKey(%d) is %v", c.key, got)
		}
	}
}

func TestBytesToInts(t *testing.T) {
	for _, c := range []struct {
		b    []byte
		want []int
	}{
		{nil, []int{0}}, {[]byte{}, []int{0}}, {[]byte{0}, []int{1, 0}}, {[]byte{255}, []int{1, 255}}, {[]byte{0, 255}, []int{2, 0, 255}},
		{[]byte{9, 8}, []int{2, 9, 8}}, {[]byte{127, 128, 0, 0}, []int{4, 127, 128, 0, 0}}, {[]byte("ab"), []int{2, 97, 98}},
	} {
		if got := impl.BytesToInts(c.b); !slices.Equal(got, c.want) {
			t.Errorf("BytesToInts(%v) is %v, want %v", c.b, got, c.want)
		}
	}
	for _, b := range plaintexts() {
		if got, want := impl.BytesToInts(b), valuesOf(string(b)); !slices.Equal(got, want) {
			t.Errorf("BytesToInts(%v) is %v, want %v", b, got, want)
		}
	}
}

func TestDecryptInvertsEncrypt(t *testing.T) {
	for _, key := range edgeKeys {
		for _, b := range plaintexts() {
			c := impl.Encrypt(key, b)
			if got := impl.Decrypt(key, c); !bytes.Equal(got, b) {
				t.Errorf("key %d: %v is encrypted as %v and comes back as %v", key, b, c, got)
			}
			p := impl.Decrypt(key, b)
			if got := impl.Encrypt(key, p); !bytes.Equal(got, b) {
				t.Errorf("key %d: %v is decrypted as %v and comes back as %v", key, b, p, got)
			}
			if len(c) != len(b) || len(p) != len(b) {
				t.Errorf("key %d: %d bytes become %d and %d", key, len(b), len(c), len(p))
			}
		}
	}
}

func TestCipherFollowsTheRule(t *testing.T) {
	for _, key := range edgeKeys {
		for _, b := range plaintexts() {
			wantC, wantP := []byte{}, []byte{}
			for i, c := range b {
				add := keyedByRule(key, []int{i})
				wantC = append(wantC, byte((int(c)+add)%256))
				wantP = append(wantP, byte((int(c)-add%256+256)%256))
			}
			if got := impl.Encrypt(key, b); !bytes.Equal(got, wantC) {
				t.Errorf("Encrypt(%d, %v) is %v, want %v", key, b, got, wantC)
			}
			if got := impl.Decrypt(key, b); !bytes.Equal(got, wantP) {
				t.Errorf("Decrypt(%d, %v) is %v, want %v", key, b, got, wantP)
			}
		}
	}
}

func TestCipherOfOneKey(t *testing.T) {
	// The hashes are 321116305 and 322116308.
	want := []byte{321116305 % 256, (200 + 322116308%256) % 256}
	if got := impl.Encrypt(77, []byte{0, 200}); !bytes.Equal(got, want) {
		t.Errorf("Encrypt(77, 0 200) is %v, want %v", got, want)
	}
	b := []byte("hello")
	c := impl.Encrypt(77, b)
	if bytes.Equal(c, b) || bytes.Equal(impl.Decrypt(78, c), b) || !bytes.Equal(impl.Decrypt(77+modulus, c), b) {
		t.Errorf("%v is encrypted as %v", b, c)
	}
}

// keyWithHash returns a key with which the keyed hash of the values is hash: a
// keyed hash is linear in its key modulo Modulus.
func keyWithHash(values []int, hash int) int {
	q := big.NewInt(modulus)
	at0, at1 := keyedByRule(0, values), keyedByRule(1, values)
	slope := big.NewInt(int64(at1 - at0))
	slope.ModInverse(slope.Mod(slope, q), q)
	key := slope.Mul(slope, big.NewInt(int64(hash-at0)))
	return int(key.Mod(key, q).Int64())
}

func TestDeriveFromStringIsNeverZero(t *testing.T) {
	for _, label := range []string{"", "a", "ab", "wallet", "\x00", "\xff\xfe", "\u00e9", strings.Repeat("x", 300)} {
		for _, c := range []struct{ hash, want int }{{0, 1}, {1, 1}, {2, 2}, {modulus - 1, modulus - 1}} {
			key := keyWithHash(valuesOf(label), c.hash)
			if got := impl.KeyedHash(key, valuesOf(label)); got != c.hash {
				t.Fatalf("with the key %d, %q has the hash %d, want %d", key, label, got, c.hash)
			}
			for _, k := range []int{key, key + modulus, key - modulus, key - modulus*modulus} {
				if got := impl.DeriveFromString(k, label); got != c.want {
					t.Errorf("DeriveFromString(%d, %q) is %d, want %d", k, label, got, c.want)
				}
			}
		}
	}
}

func TestDeriveFromString(t *testing.T) {
	if got := impl.DeriveFromString(5, "ab"); got != 1905036959 {
		t.Errorf("DeriveFromString(5, ab) is %d", got)
	}
	for _, key := range edgeKeys {
		for _, label := range []string{"", "a", "b", "ab", "ba", "a-b", "\x00", "\x00\x00", "\xff", "\xff\xfe", "\u00e9", "\u4e16\U0001f600", strings.Repeat("x", 300)} {
			want := keyedByRule(key, valuesOf(label))
			if want == 0 {
				want = 1
			}
			got := impl.DeriveFromString(key, label)
			if got != want {
				t.Errorf("DeriveFromString(%d, %q) is %d, want %d", key, label, got, want)
			}
			if !impl.IsValidKey(got) {
				t.Errorf("DeriveFromString(%d, %q) is %d, not a key", key, label, got)
			}
		}
	}
}

func TestCryptoLeavesInts(t *testing.T) {
	for _, values := range hashedLists {
		v, whole := spareInts(values)
		before := slices.Clone(whole)
		impl.Hash(v)
		impl.KeyedHash(7, v)
		impl.EqualInts(v, v)
		if !slices.Equal(whole, before) {
			t.Errorf("a function wrote into %v or its spare capacity", values)
		}
	}
}

func TestCryptoSharesNothing(t *testing.T) {
	for _, start := range plaintexts() {
		b, whole := spareBytes(start)
		before := slices.Clone(whole)
		overwrite(impl.Encrypt(7, b))
		overwrite(impl.Decrypt(7, b))
		impl.BytesToInts(b)
		if !bytes.Equal(whole, before) {
			t.Errorf("a result shares memory with %v, or a function wrote into it", start)
		}
	}
}

// Two calls with the same arguments return memory of their own each.
func TestCryptoResultsAreTheirOwn(t *testing.T) {
	for _, start := range plaintexts() {
		c, p, v := impl.Encrypt(7, start), impl.Decrypt(7, start), impl.BytesToInts(start)
		wantC, wantP, wantV := slices.Clone(c), slices.Clone(p), slices.Clone(v)
		overwrite(impl.Encrypt(7, start))
		overwrite(impl.Decrypt(7, start))
		clear(impl.BytesToInts(start))
		if !bytes.Equal(c, wantC) || !bytes.Equal(p, wantP) || !slices.Equal(v, wantV) {
			t.Errorf("the results of two calls with %v share memory", start)
		}
	}
}

func TestEqualInts(t *testing.T) {
	for _, c := range []struct {
		a, b []int
		want bool
	}{
		{nil, nil, true}, {nil, []int{}, true}, {[]int{}, nil, true}, {[]int{0}, []int{0}, true}, {[]int{1, -2, 3}, []int{1, -2, 3}, true},
		{[]int{math.MinInt, math.MaxInt}, []int{math.MinInt, math.MaxInt}, true},
		{nil, []int{0}, false}, {[]int{0}, nil, false}, {[]int{0}, []int{1}, false}, {[]int{1, 2}, []int{1}, false}, {[]int{1}, []int{1, 2}, false},
		{[]int{1, 2}, []int{1, 3}, false}, {[]int{1, 2}, []int{2, 1}, false}, {[]int{3, 2}, []int{1, 2}, false}, {[]int{5}, []int{-5}, false},
		{[]int{math.MinInt}, []int{math.MaxInt}, false}, {[]int{0}, []int{1 << 32}, false},
	} {
		if got := impl.EqualInts(c.a, c.b); got != c.want {
			t.Errorf("EqualInts(%v, %v) is %v", c.a, c.b, got)
		}
	}
}
