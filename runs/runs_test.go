package runs_test

import (
	"bytes"
	"encoding/binary"
	"math"
	"slices"
	"testing"

	"firkin/api"
	"firkin/runs"
)

// byRule is l's bytes as the chapter says them, by the library's numbers.
func byRule(l []int64) []byte {
	var b []byte
	for len(l) > 0 {
		end := slices.IndexFunc(l, func(x int64) bool { return x != l[0] })
		if end < 0 {
			end = len(l)
		}
		b = binary.AppendVarint(binary.AppendUvarint(b, uint64(end-1)), l[0])
		l = l[end:]
	}
	return b
}

// one is the bytes of a run: how many behind the first one, and the number.
func one(behind uint64, x int64) []byte {
	return binary.AppendVarint(binary.AppendUvarint(nil, behind), x)
}

// same is n times x.
func same(n int, x int64) []int64 {
	return slices.Repeat([]int64{x}, n)
}

// drawn is n numbers, drawn by a rule of their place out of kinds near 0: the fewer, the longer are the runs.
func drawn(n int, kinds uint32) []int64 {
	l := make([]int64, n)
	state := uint32(n)*2654435761 + kinds*40503 + 12345
	for i := range l {
		state = state*1664525 + 1013904223
		l[i] = int64(state>>16%kinds) - int64(kinds/2)
	}
	return l
}

// apart is n numbers of which no neighbours are equal, as long as numbers are.
func apart(n int) []int64 {
	l := make([]int64, n)
	for i := range l {
		l[i] = []int64{math.MinInt64, math.MaxInt64}[i%2]
	}
	return l
}

// sizes is counts about those at which a byte more is needed, and the greatest.
func sizes() []int {
	return []int{1, 2, 3, 4, 5, 63, 64, 65, 127, 128, 129, 130, 255, 256, 257, 1000, api.MaxList - 1, api.MaxList}
}

// lists is numbers of many sizes, in long runs and in short ones, the least and the greatest number among them.
func lists() [][]int64 {
	const least, most = math.MinInt64, math.MaxInt64
	l := [][]int64{nil, {}, {0}, {least}, {most}, {least, least, most, most, least}, {0, least, 0, most, 0}, {-1, 1, -1, 1}, {0, 0, 1, 1, 1, 0}}
	for _, n := range sizes() {
		l = append(l, same(n, 0), same(n, 7), same(n, -1), same(n, least), same(n, most), apart(n))
		l = append(l, drawn(n, 2), drawn(n, 3), drawn(n, 9), drawn(n, 1<<16))
		if n > 2 {
			l = append(l, append(same(n-1, 5), 6), append([]int64{4}, same(n-1, 5)...), slices.Concat([]int64{5}, same(n-2, 6), []int64{5}))
		}
	}
	for bit := range 64 {
		n := int64(1) << bit
		l = append(l, []int64{n - 1, n, n, n + 1, -n, -n, -n}, same(130, n))
	}
	return l
}

// wantGot is whether Get of b is the numbers that are named.
func wantGot(t *testing.T, b []byte, want []int64) {
	t.Helper()
	got, ok := runs.Get(b, len(want))
	if !ok || !slices.Equal(got, want) {
		t.Fatalf("Get of %d bytes, %d numbers: %d numbers, %v", len(b), len(want), len(got), ok)
	}
}

// wantNone is whether b is not n numbers.
func wantNone(t *testing.T, b []byte, n int) {
	t.Helper()
	if got, ok := runs.Get(b, n); ok || len(got) != 0 {
		t.Fatalf("Get(% x, %d) = %v, %v, want nothing and false", b[:min(len(b), 60)], n, got, ok)
	}
}

// wantNever is whether b is not any count of numbers.
func wantNever(t *testing.T, what string, b []byte) {
	t.Helper()
	for n := -2; n < 300; n++ {
		if got, ok := runs.Get(b, n); ok || len(got) != 0 {
			t.Fatalf("%s: Get(% x, %d) = %v, %v, want nothing and false", what, b, n, got, ok)
		}
	}
	for _, n := range otherCounts() {
		wantNone(t, b, n)
	}
}

// otherCounts is counts far from those of most lists: below 0, and about the greatest list, and the greatest ints.
func otherCounts() []int {
	return []int{-1, -2, -3, -api.MaxList, math.MinInt32, math.MinInt + 1, math.MinInt,
		api.MaxList - 1, api.MaxList, api.MaxList + 1, api.MaxList + 2, 2 * api.MaxList, math.MaxInt32, math.MaxInt - 1, math.MaxInt}
}

func TestKnownBytes(t *testing.T) { // P5.1, P5.2
	for _, c := range []struct {
		l    []int64
		want []byte
	}{
		{nil, nil},
		{[]int64{}, nil},
		{[]int64{0}, []byte{0, 0}},
		{[]int64{-1}, []byte{0, 1}},
		{[]int64{7, 7, 7}, []byte{0x02, 0x0e}},
		{[]int64{7, 8}, []byte{0, 0x0e, 0, 0x10}},
		{[]int64{7, 7, 8}, []byte{1, 0x0e, 0, 0x10}},
		{[]int64{7, 8, 8}, []byte{0, 0x0e, 1, 0x10}},
		{[]int64{7, 8, 7, 7}, []byte{0, 0x0e, 0, 0x10, 1, 0x0e}},
		{[]int64{1, -1, 0, 0}, []byte{0, 2, 0, 1, 1, 0}},
		{[]int64{150, 150}, []byte{1, 0xac, 0x02}},
		{[]int64{math.MinInt64}, []byte{0, 0xff, 0xff, 0xff, 0xff, 0xff, 0xff, 0xff, 0xff, 0xff, 1}},
		{[]int64{math.MaxInt64}, []byte{0, 0xfe, 0xff, 0xff, 0xff, 0xff, 0xff, 0xff, 0xff, 0xff, 1}},
		{same(128, 3), []byte{0x7f, 6}},
		{same(129, 3), []byte{0x80, 1, 6}},
		{same(301, -2), []byte{0xac, 2, 3}},
		{same(api.MaxList, 0), []byte{0xff, 0x1f, 0}},
	} {
		if got := runs.Put(c.l); !bytes.Equal(got, c.want) {
			t.Errorf("Put of %d numbers is % x, want % x", len(c.l), got, c.want)
		}
		wantGot(t, c.want, c.l)
	}
}

func TestPutByRule(t *testing.T) { // P5.1
	for _, l := range lists() {
		if got := runs.Put(l); !bytes.Equal(got, byRule(l)) {
			t.Fatalf("Put of %d numbers is % x, want % x", len(l), got, byRule(l))
		}
	}
}

func TestPutIsGot(t *testing.T) { // P5.3
	for _, l := range lists() {
		wantGot(t, runs.Put(l), l)
	}
}

func TestPutsOfFewKinds(t *testing.T) { // P5.1, P5.3: all lists of three kinds, each with bytes of its own
	seen := map[string]bool{}
	for n := range 8 {
		l := make([]int64, n)
		for x := range int(math.Pow(3, float64(n))) {
			for i := range l {
				l[i] = int64(x%3) - 1
				x /= 3
			}
			b := runs.Put(l)
			if seen[string(b)] || !bytes.Equal(b, byRule(l)) {
				t.Fatalf("Put(%v) = % x, want % x", l, b, byRule(l))
			}
			seen[string(b)] = true
			wantGot(t, b, l)
		}
	}
}

func TestOtherCounts(t *testing.T) { // P5.2, P5.3
	for _, l := range lists() {
		b := runs.Put(l)
		for _, n := range append(otherCounts(), 0, 1, len(l)-2, len(l)-1, len(l)+1, len(l)+2) {
			if n != len(l) {
				wantNone(t, b, n)
			}
		}
	}
}

func TestMoreThanMaxList(t *testing.T) { // P5.1, P5.2: they are put all the same, and not got
	const most = api.MaxList
	for _, n := range []int{most + 1, most + 2, 2 * most, 1 << 17} {
		for _, l := range [][]int64{same(n, 0), same(n, -9), apart(n), drawn(n, 2), drawn(n, 300)} {
			b := runs.Put(l)
			if !bytes.Equal(b, byRule(l)) {
				t.Fatalf("Put of %d numbers is other bytes than the rule's", n)
			}
			for _, k := range append(otherCounts(), 0, 1, n-1, n, n+1) {
				wantNone(t, b, k)
			}
		}
	}
}

func TestBytesThatAreCut(t *testing.T) { // P5.2
	for _, l := range lists() {
		b := runs.Put(l)
		for size := range len(b) {
			if size < 30 || size > len(b)-30 {
				wantNone(t, b[:size], len(l))
			}
		}
		if len(b) > 0 {
			wantNone(t, b[1:], len(l))
		}
	}
}

func TestBytesBehind(t *testing.T) { // P5.2
	for _, l := range lists() {
		b := runs.Put(l)
		for _, c := range []byte{0, 1, 2, 0x0e, 0x7f, 0x80, 0xff} {
			wantNone(t, append(slices.Clone(b), c), len(l))
		}
		wantNone(t, append(slices.Clone(b), one(0, 99)...), len(l))
		wantNone(t, append(one(0, 99), b...), len(l))
	}
}

func TestRunsThatAreOne(t *testing.T) { // P5.2, P5.3: a run is as long as may be
	for _, x := range []int64{0, 7, -1, 300, math.MinInt64, math.MaxInt64} {
		for _, n := range []uint64{0, 1, 127, 128} {
			for _, m := range []uint64{0, 1, 127, 128} {
				two := append(one(n, x), one(m, x)...)
				wantNever(t, "two runs of a number", two)
				wantNever(t, "two runs behind another", append(one(2, 5), two...))
				wantNever(t, "two runs ahead of another", append(slices.Clone(two), one(2, 5)...))
				apart := slices.Concat(one(n, x), one(0, 5), one(m, x))
				wantGot(t, apart, slices.Concat(same(int(n)+1, x), []int64{5}, same(int(m)+1, x)))
			}
		}
	}
}

func TestRunsThatAreTooLong(t *testing.T) { // P5.2
	const most = api.MaxList
	for _, x := range []int64{0, 7, -1, math.MinInt64} {
		for _, n := range []uint64{most, most + 1, 1<<31 - 1, 1 << 31, 1 << 32, 1<<63 - 1, 1 << 63, 1<<63 + 1, math.MaxUint64 - 1, math.MaxUint64} {
			wantNever(t, "a run", one(n, x))
			wantNever(t, "a run behind another", append(one(1, 5), one(n, x)...))
			wantNever(t, "a run ahead of another", append(one(n, x), one(1, 5)...))
		}
	}
	wantGot(t, one(most-1, 7), same(most, 7))
	wantGot(t, append(one(most-2, 7), one(0, 8)...), append(same(most-1, 7), 8))
	for _, b := range [][]byte{append(one(most-1, 7), one(0, 8)...), append(one(0, 7), one(most-1, 8)...), append(one(most-2, 7), one(1, 8)...)} {
		wantNever(t, "runs of more together", b)
	}
}

func TestBytesThatAreNoNumbers(t *testing.T) { // P5.2, P5.3
	high := bytes.Repeat([]byte{0xff}, 9)
	for _, b := range [][]byte{
		{0},
		{2},
		{0x80},
		{0, 0x80},
		{0x80, 0, 0x0e},
		{0x82, 0, 0x0e},
		{2, 0x8e, 0},
		{2, 0x80, 0},
		{0x80, 0x80, 0, 0x0e},
		{2, 0x8e, 0x80, 0},
		append([]byte{2}, high...),
		append([]byte{2}, append(high[:9:9], 2)...),
		append([]byte{2}, append(high[:9:9], 0)...),
		append([]byte{2}, append(high[:9:9], 0x81, 0)...),
		append(high[:9:9], 2, 0x0e),
		append(high[:9:9], 0x80, 0, 0x0e),
		high,
		append(high[:9:9], 1),
	} {
		wantNever(t, "no numbers", b)
		wantNever(t, "no numbers behind a run", append(one(1, 5), b...))
	}
	for _, n := range append(otherCounts(), 1) {
		wantNone(t, nil, n)
		wantNone(t, []byte{}, n)
	}
	wantNone(t, []byte{0}, 0)
	wantNone(t, []byte{0, 0}, 0)
}

// nearCounts is counts, each one once, that short bytes may have: a few, and those to which the first run alone comes.
func nearCounts(b []byte) []int {
	l := []int{-1, 0, 1, 2, 3, 4, 5, 6, 127, 128, 129, 130, 131, 132, 255, 256, 257, 258, 259}
	first, _ := binary.Uvarint(b)
	if first < api.MaxList {
		l = append(l, int(first), int(first)+1, int(first)+2)
	}
	slices.Sort(l)
	return slices.Compact(l)
}

// wantPutAgain is whether b is at most one list, and that one's bytes.
func wantPutAgain(t *testing.T, b []byte) {
	t.Helper()
	found := 0
	for _, n := range nearCounts(b) {
		l, ok := runs.Get(b, n)
		if !ok && len(l) == 0 {
			continue
		}
		found++
		if !ok || len(l) != n || !bytes.Equal(byRule(l), b) || found > 1 {
			t.Fatalf("Get(% x, %d) = %v, %v, of which the bytes are % x; lists so far: %d", b, n, l, ok, byRule(l), found)
		}
	}
}

func TestNoBytesAreTwoLists(t *testing.T) { // P5.3: all short bytes
	wantPutAgain(t, nil)
	for i := range 256 {
		wantPutAgain(t, []byte{byte(i)})
	}
	for i := range 1 << 16 {
		wantPutAgain(t, []byte{byte(i), byte(i >> 8)})
	}
	kinds := []byte{0, 1, 2, 0x7f, 0x80, 0x81, 0xff}
	for size := 3; size < 6; size++ {
		b := make([]byte, size)
		for x := range int(math.Pow(float64(len(kinds)), float64(size))) {
			for i := range b {
				b[i] = kinds[x%len(kinds)]
				x /= len(kinds)
			}
			wantPutAgain(t, b)
		}
	}
}

func TestNothingIsSharedOrChanged(t *testing.T) { // rules 3 and 4
	for _, l := range [][]int64{{7}, {7, 7, 7}, {1, 2, 2, 3}, same(200, -5), drawn(50, 3)} {
		behind := append(slices.Clone(l), l[len(l)-1], 99)
		handed := behind[:len(l)]
		b := runs.Put(handed)
		was := slices.Clone(b)
		room := append(slices.Clone(b), 0, 0)[:len(b)]
		got, _ := runs.Get(room, len(l))
		other, _ := runs.Get(room, len(l))
		got = append(got, 1, 2, 3)
		for i := range got {
			got[i] = -77
		}
		if !slices.Equal(other, l) || !bytes.Equal(room, was) || !slices.Equal(handed, l) || behind[len(l)+1] != 99 {
			t.Fatal("what was handed in is changed, or two answers share memory")
		}
		clear(room)
		clear(b)
		if !slices.Equal(other, l) || !bytes.Equal(runs.Put(handed), was) {
			t.Fatal("what is answered shares memory with what was handed in, or is another one the second time")
		}
		b = runs.Put(handed)
		clear(handed)
		if !bytes.Equal(b, was) {
			t.Fatal("the bytes turned with their numbers")
		}
	}
}
