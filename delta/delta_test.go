package delta_test

import (
	"bytes"
	"encoding/binary"
	"math"
	"slices"
	"testing"

	"firkin/api"
	"firkin/delta"
)

const (
	least = math.MinInt64
	most  = math.MaxInt64
)

// byRule is l's bytes as the chapter says them, by the library's numbers.
func byRule(l []int64) []byte {
	var b []byte
	for i, x := range l {
		ahead := uint64(0)
		if i > 0 {
			ahead = uint64(l[i-1])
		}
		b = binary.AppendVarint(b, int64(uint64(x)-ahead))
	}
	return b
}

// readByRule is the numbers that b is, and whether it is such, by the library's numbers.
func readByRule(b []byte) ([]int64, bool) {
	var l []int64
	sum := uint64(0)
	for len(b) > 0 {
		x, size := binary.Varint(b)
		if size <= 0 || size > 1 && b[size-1] == 0 {
			return nil, false
		}
		sum += uint64(x)
		l = append(l, int64(sum))
		b = b[size:]
	}
	return l, true
}

// rising is n numbers from first on, each so much more than the one ahead.
func rising(n int, first, step int64) []int64 {
	l := make([]int64, n)
	for i := range l {
		l[i] = first + int64(i)*step
	}
	return l
}

// drawn is n numbers of all sizes, drawn by a rule of their place.
func drawn(n int, bits int) []int64 {
	l := make([]int64, n)
	state := uint64(n)*0x9e3779b97f4a7c15 + uint64(bits)
	for i := range l {
		state = state*6364136223846793005 + 1442695040888963407
		l[i] = int64(state) >> (64 - bits)
	}
	return l
}

// apart is n numbers whose differences are as long as can be.
func apart(n int) []int64 {
	l := make([]int64, n)
	for i := range l {
		l[i] = []int64{least, 0}[i%2]
	}
	return l
}

// lists is numbers of many sizes and differences, such that wrap round among them.
func lists() [][]int64 {
	l := [][]int64{nil, {}, {0}, {0, 0}, {1}, {-1}, {least}, {most}, {5, 7, 6}, {least, most, least, least}, {most, least, most, most},
		{least, 0, most, 0, least}, {-1, most, -2, least, 1, least}, {most - 1, least + 1, least, most}}
	for _, n := range []int{1, 2, 3, 5, 63, 64, 65, 127, 128, 129, 300, api.MaxList - 1, api.MaxList} {
		l = append(l, rising(n, 0, 0), rising(n, 7, 0), rising(n, -9, 1), rising(n, 9, -1), rising(n, least, 63), rising(n, most, 64))
		l = append(l, rising(n, 3, -64), rising(n, 3, -65), rising(n, 0, 1<<62+1), rising(n, -1, least), apart(n))
		l = append(l, drawn(n, 2), drawn(n, 9), drawn(n, 33), drawn(n, 63), drawn(n, 64))
	}
	for bit := range 64 {
		n := int64(1) << bit
		l = append(l, []int64{n - 1, n, n + 1, -n, -n - 1, -n + 1}, []int64{n}, []int64{-n}, []int64{n, -n, n}, []int64{least, least + n, most, most - n})
	}
	return l
}

// otherCounts is counts far from those of most lists: below 0, about the greatest list, and the greatest ints.
func otherCounts() []int {
	return []int{-1, -2, -3, -api.MaxList, math.MinInt32, math.MinInt + 1, math.MinInt,
		api.MaxList - 1, api.MaxList, api.MaxList + 1, 1 << 20, math.MaxInt32, 1 << 32, math.MaxInt / 8, math.MaxInt - 1, math.MaxInt}
}

// wantGot is whether Get of b is the numbers that are named.
func wantGot(t *testing.T, b []byte, want []int64) {
	t.Helper()
	got, ok := delta.Get(b, len(want))
	if !ok || !slices.Equal(got, want) {
		t.Fatalf("Get of %d bytes, %d numbers: %v, %v, want %v", len(b), len(want), got[:min(len(got), 20)], ok, want[:min(len(want), 20)])
	}
}

// wantNone is whether b is not n numbers.
func wantNone(t *testing.T, b []byte, n int) {
	t.Helper()
	if got, ok := delta.Get(b, n); ok || len(got) != 0 {
		t.Fatalf("Get(% x, %d) = %v, %v, want nothing and false", b[:min(len(b), 60)], n, got[:min(len(got), 20)], ok)
	}
}

// wantNever is whether b is not any count of numbers.
func wantNever(t *testing.T, b []byte) {
	t.Helper()
	for n := -2; n < len(b)+20; n++ {
		wantNone(t, b, n)
	}
	for _, n := range otherCounts() {
		wantNone(t, b, n)
	}
}

func TestKnownBytes(t *testing.T) { // P6.1, P6.2
	high := bytes.Repeat([]byte{0xff}, 8)
	leastBytes := append(append([]byte{0xff}, high...), 1)
	mostBytes := append(append([]byte{0xfe}, high...), 1)
	for _, c := range []struct {
		l    []int64
		want []byte
	}{
		{nil, nil},
		{[]int64{}, nil},
		{[]int64{0}, []byte{0}},
		{[]int64{0, 0, 0}, []byte{0, 0, 0}},
		{[]int64{5, 7, 6}, []byte{0x0a, 0x04, 0x01}},
		{[]int64{-1}, []byte{1}},
		{[]int64{-1, -1, 0}, []byte{1, 0, 2}},
		{[]int64{7, 7, 7}, []byte{0x0e, 0, 0}},
		{[]int64{63, 126, 190}, []byte{0x7e, 0x7e, 0x80, 0x01}},
		{[]int64{-64, -128, -193}, []byte{0x7f, 0x7f, 0x81, 0x01}},
		{[]int64{150, 300}, []byte{0xac, 0x02, 0xac, 0x02}},
		{[]int64{least}, leastBytes},
		{[]int64{most}, mostBytes},
		{[]int64{most, least}, append(slices.Clone(mostBytes), 2)},
		{[]int64{least, most}, append(slices.Clone(leastBytes), 1)},
		{[]int64{least, 0}, append(slices.Clone(leastBytes), leastBytes...)},
		{[]int64{-1, most}, append([]byte{1}, leastBytes...)},
		{[]int64{1, least}, append([]byte{2}, mostBytes...)},
		{[]int64{most, least + 1}, append(slices.Clone(mostBytes), 4)},
		{[]int64{least + 1, most}, append(append([]byte{0xfd}, high...), 1, 3)},
	} {
		if got := delta.Put(c.l); !bytes.Equal(got, c.want) {
			t.Errorf("Put(%v) = % x, want % x", c.l, got, c.want)
		}
		wantGot(t, c.want, c.l)
	}
}

func TestPutByRule(t *testing.T) { // P6.1
	for _, l := range lists() {
		if got := delta.Put(l); !bytes.Equal(got, byRule(l)) {
			t.Fatalf("Put of %d numbers, %v first: other bytes than the rule's", len(l), l[:min(len(l), 8)])
		}
	}
}

func TestPutIsGot(t *testing.T) { // P6.2, P6.3
	for _, l := range lists() {
		wantGot(t, delta.Put(l), l)
		wantGot(t, byRule(l), l)
	}
}

func TestPutsOfFewKinds(t *testing.T) { // P6.1, P6.3: all lists of five kinds, each with bytes of its own
	kinds := []int64{0, -1, 200, least, most}
	seen := map[string]bool{}
	for n := range 6 {
		l := make([]int64, n)
		for x := range int(math.Pow(float64(len(kinds)), float64(n))) {
			for i := range l {
				l[i] = kinds[x%len(kinds)]
				x /= len(kinds)
			}
			b := delta.Put(l)
			if seen[string(b)] || !bytes.Equal(b, byRule(l)) {
				t.Fatalf("Put(%v) = % x, want % x", l, b, byRule(l))
			}
			seen[string(b)] = true
			wantGot(t, b, l)
		}
	}
}

func TestOtherCounts(t *testing.T) { // P6.2, P6.3
	for _, l := range lists() {
		b := delta.Put(l)
		for _, n := range append(otherCounts(), 0, 1, len(l)-2, len(l)-1, len(l)+1, len(l)+2, len(b)-1, len(b), len(b)+1, -len(l)) {
			if n != len(l) {
				wantNone(t, b, n)
			}
		}
	}
}

func TestMoreThanMaxList(t *testing.T) { // P6.1, P6.2: the chapter sets no limit
	for _, n := range []int{api.MaxList + 1, 2 * api.MaxList, 1 << 17} {
		for _, l := range [][]int64{rising(n, 0, 0), rising(n, -5, 3), apart(n), drawn(n, 20), drawn(n, 64)} {
			b := delta.Put(l)
			if !bytes.Equal(b, byRule(l)) {
				t.Fatalf("Put of %d numbers is other bytes than the rule's", n)
			}
			wantGot(t, b, l)
			for _, k := range []int{-1, 0, 1, api.MaxList, n - 1, n + 1, len(b) + 1, math.MaxInt} {
				wantNone(t, b, k)
			}
		}
	}
}

func TestBytesThatAreCut(t *testing.T) { // P6.2
	for _, l := range lists() {
		b := delta.Put(l)
		for size := range len(b) {
			if size < 30 || size > len(b)-30 {
				wantNone(t, b[:size], len(l))
			}
		}
		if len(b) > 9 && len(l) == 1 {
			wantNever(t, b[:len(b)-1])
		}
	}
}

func TestBytesBehind(t *testing.T) { // P6.2
	for _, l := range lists() {
		b := delta.Put(l)
		for _, c := range []byte{0, 1, 2, 0x0a, 0x7f, 0x80, 0xff} {
			wantNone(t, append(slices.Clone(b), c), len(l))
		}
		wantNone(t, append(slices.Clone(b), 0xac, 2), len(l))
		wantNone(t, append([]byte{0}, b...), len(l))
		wantGot(t, append([]byte{0}, b...), append([]int64{0}, l...))
		if len(l) > 0 {
			wantGot(t, append(slices.Clone(b), 0, 2), append(slices.Clone(l), l[len(l)-1], l[len(l)-1]+1))
		}
	}
}

func TestBytesThatAreNoNumbers(t *testing.T) { // P6.2, P6.3
	high := bytes.Repeat([]byte{0xff}, 9)
	for _, b := range [][]byte{
		{0x80},
		{0xff},
		{0x80, 0},
		{0x8a, 0},
		{0xac, 0x82, 0},
		{0x80, 0x80, 0x80},
		high,
		append(high[:9:9], 0),
		append(high[:9:9], 2),
		append(high[:9:9], 0x7f),
		append(high[:9:9], 0x80),
		append(high[:9:9], 0x81, 0),
		append(high[:9:9], 0x80, 1),
		append(high[:9:9], 0xff, 1),
	} {
		wantNever(t, b)
		wantNever(t, append([]byte{0x0a, 0x04}, b...))
		wantNever(t, append(append([]byte{0xac, 2}, b...), 0, 0x0a))
		wantNever(t, append(bytes.Repeat([]byte{2}, 200), b...))
	}
	for _, n := range append(otherCounts(), 1, 2) {
		wantNone(t, nil, n)
		wantNone(t, []byte{}, n)
	}
}

// wantByRule is whether b is read as the rule says, at all counts that it may have.
func wantByRule(t *testing.T, b []byte) {
	t.Helper()
	want, is := readByRule(b)
	for n := -1; n < len(b)+3; n++ {
		got, ok := delta.Get(b, n)
		if is && n == len(want) {
			if !ok || !slices.Equal(got, want) || !bytes.Equal(delta.Put(got), b) {
				t.Fatalf("Get(% x, %d) = %v, %v, want %v", b, n, got, ok, want)
			}
		} else if ok || len(got) != 0 {
			t.Fatalf("Get(% x, %d) = %v, %v, want nothing and false", b, n, got, ok)
		}
	}
}

func TestNoBytesAreTwoLists(t *testing.T) { // P6.2, P6.3: all short bytes
	wantByRule(t, nil)
	for i := range 256 {
		wantByRule(t, []byte{byte(i)})
	}
	for i := range 1 << 16 {
		wantByRule(t, []byte{byte(i), byte(i >> 8)})
		wantByRule(t, []byte{0x0a, byte(i), byte(i >> 8), 1})
	}
	kinds := []byte{0, 1, 2, 0x7f, 0x80, 0x81, 0xff}
	for size := 3; size < 6; size++ {
		b := make([]byte, size)
		for x := range int(math.Pow(float64(len(kinds)), float64(size))) {
			for i := range b {
				b[i] = kinds[x%len(kinds)]
				x /= len(kinds)
			}
			wantByRule(t, b)
		}
	}
	for size := 6; size < 14; size++ { // about the longest number
		for _, first := range kinds {
			for _, mid := range kinds {
				for _, last := range kinds {
					b := bytes.Repeat([]byte{mid}, size)
					b[0], b[size-1] = first, last
					wantByRule(t, b)
					wantByRule(t, append(b, 0))
					wantByRule(t, append(b, last, 5))
				}
			}
		}
	}
}

func TestCallsHangOnNoOther(t *testing.T) { // rule 4
	l, other := []int64{5, 7, 6}, []int64{-100, most, 3}
	b := delta.Put(l)
	delta.Put(other)
	delta.Get(delta.Put(other), 3)
	delta.Get([]byte{0x0a, 0x80}, 2)
	if got := delta.Put(l); !bytes.Equal(got, b) {
		t.Fatalf("Put(%v) = % x, and % x behind others", l, b, got)
	}
	wantGot(t, b, l)
	delta.Get(delta.Put(other), 3)
	delta.Get(b, 2)
	wantGot(t, b, l)
}

func TestNothingIsSharedOrChanged(t *testing.T) { // rules 3 and 4
	for _, l := range [][]int64{{7}, {7, 7, 7}, {1, 2, 2, -3}, rising(200, -5, 77), drawn(50, 64)} {
		behind := append(slices.Clone(l), -1, 99)
		handed := behind[:len(l)]
		b := delta.Put(handed)
		was := slices.Clone(b)
		room := append(slices.Clone(b), 0, 9)[:len(b)]
		got, _ := delta.Get(room, len(l))
		other, _ := delta.Get(room, len(l))
		for i := range got {
			got[i] = -77
		}
		_ = append(got, 1, 2, 3)
		if !slices.Equal(other, l) || !bytes.Equal(room, was) || room[:len(b)+2][len(b)+1] != 9 || !slices.Equal(handed, l) || behind[len(l)] != -1 || behind[len(l)+1] != 99 {
			t.Fatal("what was handed in is changed, or two answers share memory")
		}
		clear(room)
		clear(b)
		if !slices.Equal(other, l) || !bytes.Equal(delta.Put(handed), was) {
			t.Fatal("what is answered shares memory with what was handed in, or is another one the second time")
		}
		b = delta.Put(handed)
		clear(handed)
		if !bytes.Equal(b, was) {
			t.Fatal("the bytes turned with their numbers")
		}
	}
}
