package tests

import (
	"bytes"
	"math"
	"math/big"
	"slices"
	"testing"

	"loop.example/g00588/impl"
)

// encodings are integers with the bytes that the document's description gives for them.
var encodings = []struct {
	n    int
	want []byte
}{
	{0, []byte{0}}, {1, []byte{1}}, {126, []byte{126}}, {127, []byte{127}},
	{128, []byte{128, 1}}, {129, []byte{129, 1}}, {255, []byte{255, 1}}, {256, []byte{128, 2}}, {300, []byte{172, 2}},
	{16383, []byte{255, 127}}, {16384, []byte{128, 128, 1}},
	{1<<21 - 1, []byte{255, 255, 127}}, {1 << 21, []byte{128, 128, 128, 1}},
	{1<<28 - 1, []byte{255, 255, 255, 127}}, {1 << 28, []byte{128, 128, 128, 128, 1}},
	{1<<35 - 1, []byte{255, 255, 255, 255, 127}}, {1 << 35, []byte{128, 128, 128, 128, 128, 1}},
	{impl.MaxValue - 1, []byte{255, 159, 148, 165, 141, 29}}, {impl.MaxValue, []byte{128, 160, 148, 165, 141, 29}},
}

// notEncoded are integers that no varint carries.
var notEncoded = []int{
	-1, -2, -127, -128, -129, -impl.MaxValue, impl.MaxValue + 1, impl.MaxValue + 128,
	1 << 40, 1 << 42, 1 << 62, math.MaxInt - 1, math.MaxInt, math.MinInt, math.MinInt + 1,
}

// edgeOffsets are offsets into b, inside and outside of it.
func edgeOffsets(b []byte) []int {
	offsets := []int{math.MinInt, math.MinInt + 1, -len(b) - 1, -len(b), -7, -2, math.MaxInt - 6, math.MaxInt - 1, math.MaxInt}
	for i := -1; i <= len(b)+7; i++ {
		offsets = append(offsets, i)
	}
	return offsets
}

// spareBytes returns b with spare capacity, and the whole memory behind it.
func spareBytes(b []byte) ([]byte, []byte) {
	whole := append(slices.Clone(b), bytes.Repeat([]byte{0xee}, 40)...)
	return whole[:len(b)], whole
}

// overwrite changes everything that the result reaches, its spare capacity too.
func overwrite(b []byte) {
	b = b[:cap(b)]
	for i := range b {
		b[i] ^= 0xff
	}
}

// uvarintByRule follows the document's words, with integers of any size.
func uvarintByRule(b []byte, offset int) (int, int, bool) {
	if offset < 0 || offset >= len(b) {
		return 0, 0, false
	}
	last := slices.IndexFunc(b[offset:], func(c byte) bool { return c < 128 })
	if last < 0 || last+1 > 6 || last > 0 && b[offset+last] == 0 {
		return 0, 0, false
	}
	n := new(big.Int)
	for i := last; i >= 0; i-- {
		n.Lsh(n, 7)
		n.Add(n, big.NewInt(int64(b[offset+i]&127)))
	}
	if n.Cmp(big.NewInt(impl.MaxValue)) > 0 {
		return 0, 0, false
	}
	return int(n.Int64()), offset + last + 1, true
}

func TestAppendUvarint(t *testing.T) {
	for _, start := range [][]byte{nil, {}, {9}, {128, 200, 0}} {
		for _, c := range encodings {
			want := append(slices.Clone(start), c.want...)
			if got := impl.AppendUvarint(start, c.n); !bytes.Equal(got, want) {
				t.Errorf("AppendUvarint(%v, %d) is %v, want %v", start, c.n, got, want)
			}
		}
		for _, n := range notEncoded {
			if got := impl.AppendUvarint(start, n); !bytes.Equal(got, start) {
				t.Errorf("AppendUvarint(%v, %d) is %v, want a copy", start, n, got)
			}
		}
	}
}

func TestAppendUvarintSharesNothing(t *testing.T) {
	for _, start := range [][]byte{{}, {9}, {1, 2, 3, 4, 5, 6, 7, 8}} {
		for _, n := range append([]int{0, 127, 128, 300, impl.MaxValue}, notEncoded...) {
			b, whole := spareBytes(start)
			before := slices.Clone(whole)
			overwrite(impl.AppendUvarint(b, n))
			if !bytes.Equal(whole, before) {
				t.Errorf("AppendUvarint(%v, %d) shares memory with its argument or wrote into it", start, n)
			}
		}
	}
}

func TestReadUvarintInvertsAppendUvarint(t *testing.T) {
	values := []int{}
	for _, c := range encodings {
		values = append(values, c.n)
	}
	for n := 0; n <= 40000; n++ {
		values = append(values, n, n*24999999, impl.MaxValue-n)
	}
	for _, n := range values {
		for _, start := range [][]byte{nil, {255, 255}} {
			b := impl.AppendUvarint(start, n)
			for _, tail := range [][]byte{nil, {0}, {255}} {
				got, next, ok := impl.ReadUvarint(append(slices.Clone(b), tail...), len(start))
				if got != n || next != len(b) || !ok {
					t.Errorf("%d comes back as %d, %d, %v", n, got, next, ok)
				}
			}
		}
	}
}

func TestReadUvarintRejects(t *testing.T) {
	for _, b := range [][]byte{
		nil, {},
		{128}, {255}, {128, 128}, {255, 255, 255}, {128, 128, 128, 128, 128}, {128, 128, 128, 128, 128, 128}, {255, 255, 255, 255, 255, 255, 255},
		{128, 0}, {129, 0}, {255, 0}, {128, 128, 0}, {172, 130, 0}, {255, 255, 0}, {129, 128, 128, 0}, {129, 128, 128, 128, 0}, {129, 128, 128, 128, 128, 0},
		{129, 160, 148, 165, 141, 29}, {128, 161, 148, 165, 141, 29}, {128, 160, 148, 165, 141, 30}, {128, 128, 128, 128, 128, 32},
		{255, 255, 255, 255, 255, 127}, {128, 128, 128, 128, 128, 64},
		{129, 128, 128, 128, 128, 128, 0}, {129, 128, 128, 128, 128, 128, 1}, {128, 128, 128, 128, 128, 128, 1},
		{129, 128, 128, 128, 128, 128, 128, 0}, {255, 255, 255, 255, 255, 255, 127},
		// These would be small integers if they were read with wraparound at 64 bits.
		{133, 128, 128, 128, 128, 128, 128, 128, 128, 2}, {133, 128, 128, 128, 128, 128, 128, 128, 128, 128, 1},
		{255, 255, 255, 255, 255, 255, 255, 255, 255, 1}, {133, 128, 128, 128, 128, 128, 128, 128, 128, 128, 0},
	} {
		if n, next, ok := impl.ReadUvarint(b, 0); n != 0 || next != 0 || ok {
			t.Errorf("ReadUvarint(%v, 0) is %d, %d, %v, want 0, 0, false", b, n, next, ok)
		}
	}
}

func TestReadUvarintAtOffsets(t *testing.T) {
	for _, b := range [][]byte{nil, {0}, {128}, {5, 172, 2, 128, 0, 7}, {128, 160, 148, 165, 141, 29}, {1, 129, 128, 128, 128, 128, 128, 128, 1, 0}} {
		for _, offset := range edgeOffsets(b) {
			want, wantNext, wantOk := uvarintByRule(b, offset)
			if n, next, ok := impl.ReadUvarint(b, offset); n != want || next != wantNext || ok != wantOk {
				t.Errorf("ReadUvarint(%v, %d) is %d, %d, %v, want %d, %d, %v", b, offset, n, next, ok, want, wantNext, wantOk)
			}
		}
	}
}

func TestReadUvarintOfAllShortInputs(t *testing.T) {
	letters := []byte{0, 1, 29, 127, 128, 255}
	var visit func(b []byte)
	visit = func(b []byte) {
		want, wantNext, wantOk := uvarintByRule(b, 0)
		if n, next, ok := impl.ReadUvarint(b, 0); n != want || next != wantNext || ok != wantOk {
			t.Errorf("ReadUvarint(%v, 0) is %d, %d, %v, want %d, %d, %v", b, n, next, ok, want, wantNext, wantOk)
		}
		if len(b) == 7 {
			return
		}
		for _, c := range letters {
			visit(append(slices.Clone(b), c))
		}
	}
	visit(nil)
}

func TestReadUvarintStaysInTheSlice(t *testing.T) {
	whole := []byte{172, 2, 128, 1}
	if n, next, ok := impl.ReadUvarint(whole[:1], 0); n != 0 || next != 0 || ok {
		t.Errorf("read %d, %d, %v behind the end of the slice", n, next, ok)
	}
	if n, next, ok := impl.ReadUvarint(whole[:3], 2); n != 0 || next != 0 || ok {
		t.Errorf("read %d, %d, %v behind the end of the slice", n, next, ok)
	}
}

// dataOf returns a byte string of n different-looking bytes.
func dataOf(n int) []byte {
	data := make([]byte, n)
	for i := range data {
		data[i] = byte(i*7 + 200)
	}
	return data
}

func TestAppendBytes(t *testing.T) {
	for _, c := range []struct{ b, data, want []byte }{
		{nil, nil, []byte{0}}, {[]byte{}, []byte{}, []byte{0}}, {nil, []byte{0}, []byte{1, 0}}, {[]byte{1}, []byte{7, 8}, []byte{1, 2, 7, 8}},
		{[]byte{1, 2}, nil, []byte{1, 2, 0}},
		{nil, dataOf(127), append([]byte{127}, dataOf(127)...)},
		{[]byte{255}, dataOf(128), append([]byte{255, 128, 1}, dataOf(128)...)},
		{nil, dataOf(300), append([]byte{172, 2}, dataOf(300)...)},
		{nil, dataOf(20000), append([]byte{160, 156, 1}, dataOf(20000)...)},
	} {
		if got := impl.AppendBytes(c.b, c.data); !bytes.Equal(got, c.want) {
			t.Errorf("AppendBytes(%v, %d bytes) is %.9v, want %.9v", c.b, len(c.data), got, c.want)
		}
	}
}

func TestAppendBytesSharesNothing(t *testing.T) {
	for _, start := range [][]byte{{}, {9}, {1, 2, 3, 4, 5, 6, 7, 8}} {
		for _, data := range [][]byte{{}, {7}, dataOf(8), dataOf(30)} {
			b, wholeB := spareBytes(start)
			d, wholeData := spareBytes(data)
			beforeB, beforeData := slices.Clone(wholeB), slices.Clone(wholeData)
			overwrite(impl.AppendBytes(b, d))
			if !bytes.Equal(wholeB, beforeB) || !bytes.Equal(wholeData, beforeData) {
				t.Errorf("AppendBytes(%v, %v) shares memory with an argument or wrote into it", start, data)
			}
		}
	}
}

func TestAppendBytesOfOverlappingArguments(t *testing.T) {
	whole := []byte{1, 2, 3, 4, 5, 6}
	for _, c := range []struct{ b, data, want []byte }{
		{whole, whole, []byte{1, 2, 3, 4, 5, 6, 6, 1, 2, 3, 4, 5, 6}},
		{whole[:2], whole[1:4], []byte{1, 2, 3, 2, 3, 4}},
		{whole[:0], whole[:5], []byte{5, 1, 2, 3, 4, 5}},
	} {
		if got := impl.AppendBytes(c.b, c.data); !bytes.Equal(got, c.want) {
			t.Errorf("AppendBytes(%v, %v) is %v, want %v", c.b, c.data, got, c.want)
		}
	}
	if !bytes.Equal(whole, []byte{1, 2, 3, 4, 5, 6}) {
		t.Errorf("the arguments were changed: %v", whole)
	}
}

func TestReadBytesInvertsAppendBytes(t *testing.T) {
	for _, size := range []int{0, 1, 2, 126, 127, 128, 129, 300, 16383, 16384, 100000} {
		for _, start := range [][]byte{nil, {128, 128}} {
			data := dataOf(size)
			b := impl.AppendBytes(start, data)
			for _, tail := range [][]byte{nil, {3}} {
				for _, maxLen := range []int{size, size + 1, impl.MaxValue, impl.MaxValue + 1, math.MaxInt} {
					got, next, ok := impl.ReadBytes(append(slices.Clone(b), tail...), len(start), maxLen)
					if !bytes.Equal(got, data) || next != len(b) || !ok {
						t.Errorf("%d bytes with maxLen %d come back as %d bytes, %d, %v", size, maxLen, len(got), next, ok)
					}
				}
				for _, maxLen := range []int{size - 1, -1, -size - 1, math.MinInt} {
					got, next, ok := impl.ReadBytes(append(slices.Clone(b), tail...), len(start), maxLen)
					if len(got) != 0 || next != 0 || ok {
						t.Errorf("%d bytes with maxLen %d come back as %d bytes, %d, %v", size, maxLen, len(got), next, ok)
					}
				}
			}
		}
	}
}

func TestReadBytesRejects(t *testing.T) {
	for _, c := range []struct {
		b      []byte
		offset int
		maxLen int
	}{
		{nil, 0, 5}, {[]byte{}, 0, 0}, {[]byte{1}, 0, 5}, {[]byte{2, 7}, 0, 5}, {[]byte{3, 7, 8}, 0, 3}, {[]byte{127, 1}, 0, 200},
		{[]byte{128}, 0, 5}, {[]byte{128, 0}, 0, 5}, {[]byte{129, 0, 7}, 0, 5}, {[]byte{128, 128, 128, 128, 128, 128, 0}, 0, 5},
		{[]byte{129, 160, 148, 165, 141, 29, 7}, 0, math.MaxInt}, {[]byte{128, 160, 148, 165, 141, 29, 7}, 0, math.MaxInt},
		{[]byte{255, 255, 255, 255, 255, 255, 255, 255, 255, 1, 7, 7}, 0, math.MaxInt},
		{[]byte{1, 7}, -1, 5}, {[]byte{1, 7}, 2, 5}, {[]byte{1, 7}, 3, 5}, {[]byte{1, 7}, math.MinInt, 5}, {[]byte{1, 7}, math.MaxInt, 5}, {[]byte{1, 7}, 1, 5},
		{[]byte{0}, 0, -1}, {[]byte{0}, 0, math.MinInt}, {[]byte{1, 7}, 0, 0}, {[]byte{1, 7}, 0, -1}, {[]byte{2, 7, 8}, 0, 1}, {[]byte{0}, 1, 5},
	} {
		if got, next, ok := impl.ReadBytes(c.b, c.offset, c.maxLen); len(got) != 0 || next != 0 || ok {
			t.Errorf("ReadBytes(%v, %d, %d) is %v, %d, %v, want nothing, 0, false", c.b, c.offset, c.maxLen, got, next, ok)
		}
	}
}

func TestReadBytesAccepts(t *testing.T) {
	for _, c := range []struct {
		b              []byte
		offset, maxLen int
		want           []byte
		next           int
	}{
		{[]byte{0}, 0, 0, nil, 1}, {[]byte{0}, 0, 9, nil, 1}, {[]byte{1, 7}, 0, 1, []byte{7}, 2}, {[]byte{1, 7, 8}, 0, 1, []byte{7}, 2},
		{[]byte{1, 2, 7, 8}, 1, 2, []byte{7, 8}, 4}, {[]byte{1, 2, 7, 8}, 0, 2, []byte{2}, 2}, {[]byte{1, 0}, 1, 0, nil, 2},
		{[]byte{1, 2, 7, 8, 9}, 1, math.MaxInt, []byte{7, 8}, 4},
	} {
		if got, next, ok := impl.ReadBytes(c.b, c.offset, c.maxLen); !bytes.Equal(got, c.want) || next != c.next || !ok {
			t.Errorf("ReadBytes(%v, %d, %d) is %v, %d, %v, want %v, %d, true", c.b, c.offset, c.maxLen, got, next, ok, c.want, c.next)
		}
	}
}

func TestReadBytesAtAllOffsetsAndLimits(t *testing.T) {
	b := []byte{3, 1, 0, 130, 0, 2, 5, 6, 129, 1, 4, 9}
	for _, offset := range edgeOffsets(b) {
		for _, maxLen := range []int{math.MinInt, -1, 0, 1, 2, 3, 4, 5, 6, 129, impl.MaxValue, math.MaxInt} {
			var want []byte
			n, next, wantOk := uvarintByRule(b, offset)
			if wantOk = wantOk && n <= maxLen && next+n <= len(b); wantOk {
				want, next = b[next:next+n], next+n
			} else {
				next = 0
			}
			if got, gotNext, ok := impl.ReadBytes(b, offset, maxLen); !bytes.Equal(got, want) || gotNext != next || ok != wantOk {
				t.Errorf("ReadBytes(%v, %d, %d) is %v, %d, %v, want %v, %d, %v", b, offset, maxLen, got, gotNext, ok, want, next, wantOk)
			}
		}
	}
}

func TestReadBytesSharesNothing(t *testing.T) {
	for _, start := range [][]byte{{0}, {0, 5}, {1, 7}, {2, 7, 8, 9}, {5, 1}} {
		b, whole := spareBytes(start)
		before := slices.Clone(whole)
		got, _, _ := impl.ReadBytes(b, 0, 9)
		overwrite(got)
		if !bytes.Equal(whole, before) {
			t.Errorf("ReadBytes(%v, 0, 9) shares memory with its argument or wrote into it", start)
		}
	}
}

func TestReadBytesStaysInTheSlice(t *testing.T) {
	whole := []byte{2, 7, 8, 9}
	if got, next, ok := impl.ReadBytes(whole[:2], 0, 9); len(got) != 0 || next != 0 || ok {
		t.Errorf("read %v, %d, %v behind the end of the slice", got, next, ok)
	}
}

func TestEncodeInts(t *testing.T) {
	for _, c := range []struct {
		values []int
		want   []byte
	}{
		{nil, nil}, {[]int{}, nil}, {[]int{0}, []byte{0}}, {[]int{5, 300}, []byte{5, 172, 2}}, {[]int{127, 128, 127}, []byte{127, 128, 1, 127}},
		{[]int{impl.MaxValue, 1}, []byte{128, 160, 148, 165, 141, 29, 1}},
		{[]int{-1}, nil}, {[]int{5, -1, 300}, []byte{5, 172, 2}}, {[]int{impl.MaxValue + 1, 0, math.MinInt, 1, math.MaxInt}, []byte{0, 1}},
		{notEncoded, nil},
	} {
		before := slices.Clone(c.values)
		if got := impl.EncodeInts(c.values); !bytes.Equal(got, c.want) {
			t.Errorf("EncodeInts(%v) is %v, want %v", c.values, got, c.want)
		}
		if !slices.Equal(c.values, before) {
			t.Errorf("EncodeInts changed %v to %v", before, c.values)
		}
	}
	long := make([]int, 5000)
	if got := impl.EncodeInts(long); !bytes.Equal(got, make([]byte, 5000)) {
		t.Errorf("EncodeInts of 5000 zeros has %d bytes", len(got))
	}
}

func TestDecodeIntsInvertsEncodeInts(t *testing.T) {
	edges := []int{}
	for _, c := range encodings {
		edges = append(edges, c.n)
	}
	for _, count := range []int{0, 1, 2, len(edges), 99, 100} {
		values := make([]int, count)
		for i := range values {
			values[i] = edges[(i+count)%len(edges)]
		}
		b := impl.EncodeInts(values)
		for _, start := range [][]byte{nil, {128, 0}} {
			for _, tail := range [][]byte{nil, {128}} {
				whole := slices.Concat(start, b, tail)
				got, next, ok := impl.DecodeInts(whole, len(start), count)
				if !slices.Equal(got, values) || next != len(start)+len(b) || !ok {
					t.Errorf("%d values come back as %v, %d, %v", count, got, next, ok)
				}
			}
		}
	}
}

func TestDecodeIntsCounts(t *testing.T) {
	b := make([]byte, 300)
	for _, count := range []int{0, 1, 50, 99, 100} {
		for _, offset := range []int{0, 1, 200} {
			got, next, ok := impl.DecodeInts(b, offset, count)
			if !slices.Equal(got, make([]int, count)) || next != offset+count || !ok {
				t.Errorf("DecodeInts(300 zeros, %d, %d) is %v, %d, %v", offset, count, got, next, ok)
			}
		}
	}
	for _, count := range []int{math.MinInt, -100, -1, 101, 102, 300, 1000000, math.MaxInt} {
		if got, next, ok := impl.DecodeInts(b, 0, count); len(got) != 0 || next != 0 || ok {
			t.Errorf("DecodeInts(300 zeros, 0, %d) is %v, %d, %v, want nothing, 0, false", count, got, next, ok)
		}
	}
}

func TestDecodeIntsAtOffsets(t *testing.T) {
	for _, b := range [][]byte{nil, {0}, {5, 172, 2, 128, 0, 7}, {1, 129, 160, 148, 165, 141, 29}} {
		for _, offset := range edgeOffsets(b) {
			for count := -1; count <= len(b)+1; count++ {
				want, wantNext, wantOk := []int{}, offset, count >= 0 && offset >= 0 && offset <= len(b)
				for i := 0; wantOk && i < count; i++ {
					var n int
					n, wantNext, wantOk = uvarintByRule(b, wantNext)
					want = append(want, n)
				}
				if !wantOk {
					want, wantNext = nil, 0
				}
				if got, next, ok := impl.DecodeInts(b, offset, count); !slices.Equal(got, want) || next != wantNext || ok != wantOk {
					t.Errorf("DecodeInts(%v, %d, %d) is %v, %d, %v, want %v, %d, %v", b, offset, count, got, next, ok, want, wantNext, wantOk)
				}
			}
		}
	}
}

func TestDecodeIntsRejectsAfterGoodVarints(t *testing.T) {
	for _, bad := range [][]byte{{}, {128}, {128, 0}, {129, 160, 148, 165, 141, 29}, {129, 128, 128, 128, 128, 128, 1}} {
		b := append([]byte{5, 172, 2}, bad...)
		if got, next, ok := impl.DecodeInts(b, 0, 3); len(got) != 0 || next != 0 || ok {
			t.Errorf("DecodeInts(%v, 0, 3) is %v, %d, %v, want nothing, 0, false", b, got, next, ok)
		}
		if got, next, ok := impl.DecodeInts(b, 0, 2); !slices.Equal(got, []int{5, 300}) || next != 3 || !ok {
			t.Errorf("DecodeInts(%v, 0, 2) is %v, %d, %v", b, got, next, ok)
		}
	}
}

func TestReadersLeaveTheInput(t *testing.T) {
	b, whole := spareBytes([]byte{2, 172, 2, 128, 0})
	before := slices.Clone(whole)
	for _, offset := range edgeOffsets(b) {
		impl.ReadUvarint(b, offset)
		impl.ReadBytes(b, offset, 3)
		impl.DecodeInts(b, offset, 2)
		impl.EqualBytes(b, b)
	}
	if !bytes.Equal(whole, before) {
		t.Errorf("the input was changed to %v", whole)
	}
}

func TestEqualBytes(t *testing.T) {
	for _, c := range []struct {
		a, b []byte
		want bool
	}{
		{nil, nil, true}, {nil, []byte{}, true}, {[]byte{}, nil, true}, {[]byte{0}, []byte{0}, true}, {[]byte{1, 2, 255}, []byte{1, 2, 255}, true},
		{nil, []byte{0}, false}, {[]byte{0}, nil, false}, {[]byte{0}, []byte{1}, false}, {[]byte{1, 2}, []byte{1}, false}, {[]byte{1}, []byte{1, 2}, false},
		{[]byte{1, 2}, []byte{1, 3}, false}, {[]byte{1, 2}, []byte{2, 1}, false}, {[]byte{3, 2}, []byte{1, 2}, false}, {[]byte{0}, []byte{0, 0}, false},
	} {
		if got := impl.EqualBytes(c.a, c.b); got != c.want {
			t.Errorf("EqualBytes(%v, %v) is %v", c.a, c.b, got)
		}
	}
}
