package tests

import (
	"bytes"
	"regexp"
	"slices"
	"strings"
	"testing"

	"loop.example/g00588/impl"
)

// goodLabels are labels of all lengths and kinds of characters.
var goodLabels = []string{
	"a", "z", "m", "0", "9", "1", "5", "o", "l", "s",
	"ab", "a0", "0a", "00", "a-b", "a--b", "0-0", "9-z", "ma-il", "mail", "ma-i1", "mai1",
	"shop", "sh0p", "5hop", "5h0p", "5h-0p", "s-h-o-p", "sh-op", "ann", "bob",
	"abcdefg", "a-cdefg", "abcdefgh", "a-c-e-gh", "a------h", "ah", "00000000", "zzzzzzzz", "01234567", "ol234s67",
}

// noLabels are strings that are no label, each for a reason of its own.
var noLabels = []string{
	"", "abcdefghi", "000000000", "a-------i", "abcdefgh-", "-abcdefgh", "abcdefghA", strings.Repeat("a", 5000), strings.Repeat("-", 5000),
	"-", "--", "-a", "a-", "-a-", "--a", "a--", "a-b-", "-a-b", "-0", "5-", "-abcdefg", "abcdefg-", "--------",
	"A", "Z", "M", "aB", "Ab", "ANN", "aOb", "aLb", "aSb",
	"/", ":", "`", "{", ",", ".", "@", "[", "a/b", "a:b", "a`b", "a{b", "a,b", "a.b", "a_b", "a b", " a", "a ", "a\n", "\na", "a\x00", "\x00", "\x7f", "a+b", "a=b", "a\tb",
	"\x80", "\xff", "a\x80", "\xe1", "a\xffb", "\xadx", "a\xad", "\xb0", "a\xb0\xb1",
	// Characters of several bytes, some with the low byte of an allowed one.
	"\u00e9", "a\u00e9", "\u00df", "\u0430", "\u0661", "\uff11", "\uff41", "\u017f", "\u0131", "\u0161", "a\u0161b", "\u0130", "\u6130", "\u2010", "a\u2010b", "a\u012db", "\U0001f600", "a\u0301", "\u00ad", "a\u00adb", "\ufffd", "\u212a",
	"\xc3", "a\xc3", "\xe4\xb8", "a\xe4\xb8b", "\xed\xa0\x80", "\xf4\x90\x80\x80", "\xc1\xa1", "\xc0\xad", "a\xc0\xadb", "\xc0\xb0",
}

func labelsAndOthers() []string {
	return slices.Concat(goodLabels, noLabels)
}

var labelForm = regexp.MustCompile(`\A[a-z0-9]([a-z0-9-]{0,6}[a-z0-9])?\z`)

// plainByRule follows the document's words one replacement after the other.
func plainByRule(s string) string {
	for _, c := range [][2]string{{"0", "o"}, {"1", "l"}, {"5", "s"}, {"-", ""}} {
		s = strings.ReplaceAll(s, c[0], c[1])
	}
	return s
}

// visitStrings calls visit for all strings of at most n of the given parts.
func visitStrings(n int, parts []string, visit func(s string)) {
	var extend func(s string, n int)
	extend = func(s string, n int) {
		visit(s)
		if n == 0 {
			return
		}
		for _, part := range parts {
			extend(s+part, n-1)
		}
	}
	extend("", n)
}

var labelParts = []string{"a", "z", "0", "1", "5", "9", "o", "l", "s", "-", "A", "/", ":", "`", "{", "\x80", "\xff", "\u00e9", "\xc3", "\x00"}

func TestMaxLabel(t *testing.T) {
	if impl.MaxLabel != 8 {
		t.Errorf("MaxLabel is %d", impl.MaxLabel)
	}
}

func TestIsLabel(t *testing.T) {
	for _, s := range goodLabels {
		if !impl.IsLabel(s) {
			t.Errorf("%q is no label", s)
		}
	}
	for _, s := range noLabels {
		if impl.IsLabel(s) {
			t.Errorf("%.40q is a label", s)
		}
	}
}

func TestIsLabelOfAllLengths(t *testing.T) {
	for n := range 300 {
		want := n >= 1 && n <= 8
		for _, c := range []string{"a", "0", "z", "9"} {
			if got := impl.IsLabel(strings.Repeat(c, n)); got != want {
				t.Errorf("IsLabel of %d times %q is %v", n, c, got)
			}
		}
		if n >= 2 && impl.IsLabel("a"+strings.Repeat("-", n-2)+"b") != want {
			t.Errorf("%d characters with hyphens inside", n)
		}
	}
}

// The document counts characters; a string of MaxLabel characters that has more
// bytes is no label all the same, as one of its characters is not allowed.
func TestIsLabelOfEachCharacter(t *testing.T) {
	for r := rune(0); r <= 0x2ffff; r++ {
		want := strings.ContainsRune("abcdefghijklmnopqrstuvwxyz0123456789", r)
		s := string(r)
		if got := impl.IsLabel(s); got != want {
			t.Errorf("IsLabel(%q) is %v", s, got)
		}
		if got := impl.IsLabel("a" + s + "b"); got != (want || r == '-') {
			t.Errorf("IsLabel(%q) is %v", "a"+s+"b", got)
		}
		if impl.IsLabel("abcdefg"+s) != want || impl.IsLabel("abcdefgh"+s) {
			t.Errorf("%q as the last of 8 or 9 characters", s)
		}
	}
}

func TestIsLabelOfAllPairsOfBytes(t *testing.T) {
	for i := range 256 * 256 {
		pair := string([]byte{byte(i / 256), byte(i)})
		for _, s := range []string{pair[:1], pair, pair + "a", "a" + pair, "a" + pair + "b", "abcd" + pair + "gh", "abcd" + pair + "ghi"} {
			if got, want := impl.IsLabel(s), labelForm.MatchString(s); got != want {
				t.Errorf("IsLabel(%q) is %v, want %v", s, got, want)
			}
		}
	}
}

func TestPlainOf(t *testing.T) {
	for _, c := range []struct{ s, want string }{
		{"", ""}, {"0", "o"}, {"1", "l"}, {"5", "s"}, {"-", ""}, {"--", ""}, {"-a-", "a"}, {"---0---", "o"},
		{"5h-0p1", "shopl"}, {"mail", "mail"}, {"ma-i1", "mail"}, {"ols", "ols"}, {"015", "ols"}, {"51015-0", "slolso"}, {"0000", "oooo"}, {"1-1", "ll"}, {"5-5-5-5-5", "sssss"},
		{"2346789", "2346789"}, {"abcdefghijklmnopqrstuvwxyz", "abcdefghijklmnopqrstuvwxyz"},
		// Strings that are no label are treated in the same way.
		{"A-0", "Ao"}, {"OLS", "OLS"}, {"a b", "a b"}, {"_0_", "_o_"}, {"\x00", "\x00"}, {"-\x00-1", "\x00l"}, {"\n5", "\ns"},
		{"\xff", "\xff"}, {"\xff0\xfe", "\xffo\xfe"}, {"0\x80-\x80", "o\x80\x80"}, {"\xc3-\xa9", "\xc3\xa9"}, {"\xe4\xb8-1", "\xe4\xb8l"}, {"\xed\xa0\x80", "\xed\xa0\x80"}, {"\xc0\xad", "\xc0\xad"},
		{"\u00e90", "\u00e9o"}, {"\u2010-\u2010", "\u2010\u2010"}, {"\u012d\u0130\u0131\u0135", "\u012d\u0130\u0131\u0135"}, {"\ufffd1", "\ufffdl"}, {"\uff10", "\uff10"}, {"\U0001f6005", "\U0001f600s"},
		{strings.Repeat("0-", 3000), strings.Repeat("o", 3000)},
	} {
		if got := impl.PlainOf(c.s); got != c.want {
			t.Errorf("PlainOf(%.40q) is %.40q, want %.40q", c.s, got, c.want)
		}
	}
}

func TestPlainOfEachByte(t *testing.T) {
	for i := range 256 {
		s := string([]byte{byte(i)})
		want := s
		switch s {
		case "0":
			want = "o"
		case "1":
			want = "l"
		case "5":
			want = "s"
		case "-":
			want = ""
		}
		for _, c := range [][2]string{{s, want}, {s + s, want + want}, {"x" + s + "y", "x" + want + "y"}, {"\xe4" + s + "\x80", "\xe4" + want + "\x80"}} {
			if got := impl.PlainOf(c[0]); got != c[1] {
				t.Errorf("PlainOf(%q) is %q, want %q", c[0], got, c[1])
			}
		}
	}
}

func TestLabelsOfAllShortStrings(t *testing.T) {
	visitStrings(3, labelParts, func(s string) {
		for _, u := range []string{s, s + "-a1-b", "abcde" + s, "abcdef" + s} {
			if got, want := impl.IsLabel(u), labelForm.MatchString(u); got != want {
				t.Errorf("IsLabel(%q) is %v, want %v", u, got, want)
			}
			if got, want := impl.PlainOf(u), plainByRule(u); got != want {
				t.Errorf("PlainOf(%q) is %q, want %q", u, got, want)
			}
			if got, want := impl.LooksLike(u, u), labelForm.MatchString(u); got != want {
				t.Errorf("LooksLike(%q, %q) is %v, want %v", u, u, got, want)
			}
		}
	})
}

func TestLooksLike(t *testing.T) {
	for _, c := range []struct {
		a, b string
		want bool
	}{
		{"0", "o", true}, {"1", "l", true}, {"5", "s", true}, {"a", "a", true}, {"0", "0", true}, {"015", "ols", true}, {"0l5", "o1s", true},
		{"sh0p", "5hop", true}, {"mail", "ma-i1", true}, {"a-b", "ab", true}, {"ab-c", "a-bc", true}, {"a------b", "ab", true}, {"a--b", "a-b", true}, {"00000000", "oooooooo", true}, {"1-1-1-1", "llll", true},
		{"a", "b", false}, {"a", "ab", false}, {"ann", "bob", false}, {"0", "1", false}, {"0", "5", false}, {"1", "5", false}, {"o", "l", false}, {"o", "s", false},
		{"1", "i", false}, {"2", "z", false}, {"8", "b", false}, {"0", "c", false}, {"5", "6", false}, {"9", "g", false}, {"ab", "ba", false}, {"sh0p", "5hops", false}, {"aa", "a-a-a", false},
		// One of the two is no label, although PlainOf is the same for both.
		{"a", "a-", false}, {"a", "-a", false}, {"ab", "-ab", false}, {"ab", "a-b-", false}, {"ab", "a-------b", false}, {"abcdefgh", "abcd-efgh", false},
		{"", "", false}, {"", "-", false}, {"-", "-", false}, {"a", "", false}, {"A", "A", false}, {"A", "a", false}, {"O", "0", false}, {"a.b", "a.b", false}, {"a.b", "a.-b", false},
		{"abcdefghi", "abcdefghi", false}, {"\xff", "\xff", false}, {"\xff", "\xfe", false}, {"\xff", "\ufffd", false}, {"\u00e9", "\u00e9", false}, {"\u0161", "a", false}, {"a\u0161", "aa", false},
	} {
		for _, got := range []bool{impl.LooksLike(c.a, c.b), impl.LooksLike(c.b, c.a)} {
			if got != c.want {
				t.Errorf("%q and %q: LooksLike is %v", c.a, c.b, got)
			}
		}
	}
}

func TestLooksLikeDoesNotDependOnTheOrder(t *testing.T) {
	all := labelsAndOthers()
	for _, a := range all {
		if got, want := impl.LooksLike(a, a), impl.IsLabel(a); got != want {
			t.Errorf("LooksLike(%.40q, itself) is %v, IsLabel %v", a, got, want)
		}
		for _, b := range all {
			got, turned := impl.LooksLike(a, b), impl.LooksLike(b, a)
			if got != turned {
				t.Errorf("%.40q and %.40q: LooksLike is %v, and %v the other way round", a, b, got, turned)
			}
			want := labelForm.MatchString(a) && labelForm.MatchString(b) && plainByRule(a) == plainByRule(b)
			if got != want {
				t.Errorf("LooksLike(%.40q, %.40q) is %v, want %v", a, b, got, want)
			}
		}
	}
}

func TestLooksLikeOfAllShortPairs(t *testing.T) {
	short := []string{}
	visitStrings(2, labelParts, func(s string) { short = append(short, s) })
	visitStrings(4, []string{"0", "o", "-", "1"}, func(s string) { short = append(short, s) })
	for _, a := range short {
		for _, b := range short {
			got := impl.LooksLike(a, b)
			if got != impl.LooksLike(b, a) {
				t.Fatalf("LooksLike of %q and %q depends on the order", a, b)
			}
			if got != (labelForm.MatchString(a) && labelForm.MatchString(b) && plainByRule(a) == plainByRule(b)) {
				t.Fatalf("LooksLike(%q, %q) is %v", a, b, got)
			}
		}
	}
}

func TestCompareLabels(t *testing.T) {
	for _, c := range []struct {
		a, b string
		want int
	}{
		{"a", "a", 0}, {"", "", 0}, {"abcdefgh", "abcdefgh", 0}, {"\xff", "\xff", 0}, {"A", "A", 0},
		{"a", "ab", -1}, {"", "a", -1}, {"", "\x00", -1}, {"a", "a\x00", -1}, {"a", "a-", -1}, {"abcdefg", "abcdefgh", -1}, {"\xff", "\xff\x00", -1},
		{"a", "b", -1}, {"ab", "b", -1}, {"ab", "ac", -1}, {"a", "z", -1}, {"z0", "z1", -1}, {"-", "0", -1}, {"9", "a", -1}, {"a-z", "a0", -1}, {"a9", "aa", -1}, {"10", "9", -1}, {"Z", "a", -1},
		// Labels that look alike are told apart.
		{"0", "o", -1}, {"1", "l", -1}, {"5", "s", -1}, {"ma-il", "mail", -1},
		// Bytes of 128 and above come after the others.
		{"a", "\x80", -1}, {"\x7f", "\x80", -1}, {"\x00", "\xff", -1}, {"z", "\u00e9", -1}, {"\x80", "\xff", -1}, {"\xc3\xa9", "\xc3\xaa", -1}, {"a\x7f", "a\x80", -1}, {"\xc3", "\xc3\xa9", -1},
		// By runes it would be the other way round, or equal.
		{"\x80", "\u00e9", -1}, {"a\x80", "a\u00e9", -1}, {"\ufffd", "\xff", -1}, {"\xc3", "\ufffd", -1}, {"\xfe", "\xff", -1},
	} {
		if got := impl.CompareLabels(c.a, c.b); got != c.want {
			t.Errorf("CompareLabels(%q, %q) is %d, want %d", c.a, c.b, got, c.want)
		}
		if got := impl.CompareLabels(c.b, c.a); got != -c.want {
			t.Errorf("CompareLabels(%q, %q) is %d, want %d", c.b, c.a, got, -c.want)
		}
	}
	all := labelsAndOthers()
	for _, a := range all {
		for _, b := range all {
			if got, want := impl.CompareLabels(a, b), bytes.Compare([]byte(a), []byte(b)); got != want {
				t.Errorf("CompareLabels(%.40q, %.40q) is %d, want %d", a, b, got, want)
			}
		}
	}
}

func TestLabelInts(t *testing.T) {
	for _, c := range []struct {
		s    string
		want []int
	}{
		{"", []int{0}}, {"a", []int{1, 97}}, {"ab", []int{2, 97, 98}}, {"0-9", []int{3, 48, 45, 57}}, {"\x00", []int{1, 0}}, {"-", []int{1, 45}},
		{"\x80", []int{1, 128}}, {"\xff\x7f", []int{2, 255, 127}}, {"\u00e9", []int{2, 195, 169}}, {"a\u00e9", []int{3, 97, 195, 169}}, {"\U0001f600", []int{4, 240, 159, 152, 128}}, {"\xc3(", []int{2, 195, 40}},
	} {
		if got := impl.LabelInts(c.s); !slices.Equal(got, c.want) {
			t.Errorf("LabelInts(%q) is %v, want %v", c.s, got, c.want)
		}
	}
	for _, s := range labelsAndOthers() {
		got := impl.LabelInts(s)
		if want := valuesOf(s); !slices.Equal(got, want) || !slices.Equal(got, impl.BytesToInts([]byte(s))) {
			t.Errorf("LabelInts(%.40q) is %v, want %v", s, got, want)
		}
	}
}

func TestLabelIntsAreTheirOwn(t *testing.T) {
	for _, s := range labelsAndOthers() {
		first, second := impl.LabelInts(s), impl.LabelInts(s)
		clear(first[:cap(first)])
		if !slices.Equal(second, valuesOf(s)) || !slices.Equal(impl.LabelInts(s), valuesOf(s)) {
			t.Errorf("the results of two calls with %.40q share memory", s)
		}
	}
}

func TestFirstAlike(t *testing.T) {
	for _, c := range []struct {
		list []string
		s    string
		want int
	}{
		{nil, "a", -1}, {[]string{}, "a", -1}, {nil, "", -1}, {nil, "-", -1},
		{[]string{"a"}, "a", 0}, {[]string{"b"}, "a", -1}, {[]string{"ann", "bob"}, "eve", -1}, {[]string{"ann", "bob"}, "bob", 1}, {[]string{"a", "b", "a-c"}, "ac", 2},
		{[]string{"ann", "sh0p", "shop"}, "5hop", 1}, {[]string{"ann", "sh0p", "shop"}, "shop", 1}, {[]string{"shop", "sh0p", "shop"}, "sh0p", 0}, {[]string{"x", "5", "s", "5"}, "s", 1},
		// Elements that are no label are passed over.
		{[]string{"-a", "a-", "", "A", "a"}, "a", 4}, {[]string{"-a", "a-", ""}, "a", -1}, {[]string{"abcd-efgh", "abcdefgh"}, "abcdefgh", 1}, {[]string{"\xff", "\u0161", "0"}, "o", 2},
		// An s that is no label looks like nothing, not even itself.
		{[]string{"", "a"}, "", -1}, {[]string{"-", ""}, "-", -1}, {[]string{"-a", "a"}, "-a", -1}, {[]string{"A", "a"}, "A", -1}, {[]string{"abcdefgh", "abcd-efgh"}, "abcd-efgh", -1}, {[]string{"\xff", "\ufffd"}, "\xff", -1}, {[]string{"a", "b"}, "", -1},
	} {
		if got := impl.FirstAlike(c.list, c.s); got != c.want {
			t.Errorf("FirstAlike(%q, %q) is %d, want %d", c.list, c.s, got, c.want)
		}
	}
	all := labelsAndOthers()
	for _, s := range all {
		want := slices.IndexFunc(all, func(element string) bool { return impl.LooksLike(element, s) })
		if got := impl.FirstAlike(all, s); got != want {
			t.Errorf("FirstAlike of %.40q is %d, want %d", s, got, want)
		}
	}
}

func TestFirstAlikeLeavesTheList(t *testing.T) {
	all := labelsAndOthers()
	whole := append(slices.Clone(all), "spare", "0", "a-")
	before := slices.Clone(whole)
	for n := range all {
		for _, s := range all {
			want := slices.IndexFunc(before[:n], func(element string) bool { return impl.LooksLike(element, s) })
			if got := impl.FirstAlike(whole[:n], s); got != want {
				t.Errorf("FirstAlike of %.40q in the first %d is %d, want %d", s, n, got, want)
			}
		}
	}
	if !slices.Equal(whole, before) {
		t.Error("FirstAlike wrote into the list or its spare capacity")
	}
}
