package tight_test

import (
	"bytes"
	"encoding/binary"
	"math"
	"math/big"
	"slices"
	"testing"

	"firkin/api"
	"firkin/tight"
)

const (
	least = math.MinInt64
	most  = math.MaxInt64
)

// head is what goes ahead of the bits: the least number, and how many bits each one has.
func head(low int64, w int) []byte {
	return append(binary.AppendVarint(nil, low), byte(w))
}

// byRule is l's bytes as the chapter says them: the bits are one great number, whose bytes are told from its end.
func byRule(l []int64) []byte {
	if len(l) == 0 {
		return nil
	}
	low, high := slices.Min(l), slices.Max(l)
	w := new(big.Int).Sub(big.NewInt(high), big.NewInt(low)).BitLen()
	all := new(big.Int)
	for i := len(l) - 1; i >= 0; i-- {
		all.Lsh(all, uint(w))
		all.Add(all, new(big.Int).Sub(big.NewInt(l[i]), big.NewInt(low)))
	}
	body := make([]byte, (len(l)*w+7)/8)
	all.FillBytes(body)
	slices.Reverse(body)
	return append(head(low, w), body...)
}

// readByRule is the n numbers that b is, and whether it is such: each thing that is no Put's is looked for by itself.
func readByRule(b []byte, n int) ([]int64, bool) {
	if n == 0 {
		return nil, len(b) == 0
	}
	low, size := binary.Varint(b)
	if n < 0 || n > api.MaxList || size <= 0 || size > 1 && b[size-1] == 0 || len(b) == size || b[size] > 64 {
		return nil, false
	}
	w, body := int(b[size]), slices.Clone(b[size+1:])
	if len(body) != (n*w+7)/8 {
		return nil, false
	}
	slices.Reverse(body)
	all := new(big.Int).SetBytes(body)
	if all.BitLen() > n*w {
		return nil, false
	}
	return apartByRule(all, low, n, w)
}

// apartByRule is the n numbers of w bits each that are one great number, and whether just so many bits are needed.
func apartByRule(all *big.Int, low int64, n, w int) ([]int64, bool) {
	mask := new(big.Int).Sub(new(big.Int).Lsh(big.NewInt(1), uint(w)), big.NewInt(1))
	hasLeast, hasWide := false, w == 0
	var l []int64
	for range n {
		x := new(big.Int).And(all, mask)
		all = new(big.Int).Rsh(all, uint(w))
		hasLeast = hasLeast || x.Sign() == 0
		hasWide = hasWide || x.BitLen() == w
		x.Add(x, big.NewInt(low))
		if !x.IsInt64() {
			return nil, false
		}
		l = append(l, x.Int64())
	}
	if !hasLeast || !hasWide {
		return nil, false
	}
	return l, true
}

// rising is n numbers from first on, each so much more than the one ahead.
func rising(n int, first, step int64) []int64 {
	l := make([]int64, n)
	for i := range l {
		l[i] = first + int64(i)*step
	}
	return l
}

// drawn is n numbers of so many bits, drawn by a rule of their place.
func drawn(n int, bits int) []int64 {
	l := make([]int64, n)
	state := uint64(n)*0x9e3779b97f4a7c15 + uint64(bits)
	for i := range l {
		state = state*6364136223846793005 + 1442695040888963407
		l[i] = int64(state) >> (64 - bits)
	}
	return l
}

// wide is n numbers by a rule of their place, from low on, of which the last two are low and the one that needs w bits.
func wide(n, w int, low int64) []int64 {
	l := drawn(n, 64)
	for i, x := range l {
		l[i] = low
		if w > 0 {
			l[i] = low + int64(uint64(x)>>(64-w))
		}
	}
	if w > 0 {
		l[n-1] = low + int64(uint64(1)<<(w-1))
	}
	l[max(n-2, 0)] = low
	return l
}

// lists is numbers of many sizes, with as many bits as there may be.
func lists() [][]int64 {
	l := [][]int64{nil, {}, {0}, {0, 0}, {1}, {-1}, {least}, {most}, {5, 6, 8}, {8, 6, 5}, {least, most}, {most, least, 0, -1, 1},
		{least, least}, {most, most, most}, {least, 0}, {0, most}, {-1, most}, {least, -1}, {least + 1, most}, {least, most - 1}}
	for _, n := range []int{1, 2, 3, 5, 7, 8, 9, 63, 64, 65, 127, 128, 129, 300, api.MaxList - 1, api.MaxList} {
		l = append(l, rising(n, 0, 0), rising(n, 7, 0), rising(n, -9, 1), rising(n, 9, -1), rising(n, least, 63), rising(n, most, -64))
		l = append(l, drawn(n, 1), drawn(n, 2), drawn(n, 9), drawn(n, 33), drawn(n, 63), drawn(n, 64))
	}
	for w := range 65 {
		for n := 2; n < 20; n++ {
			l = append(l, wide(n, w, least), wide(n, w, least+3))
			if w < 64 {
				l = append(l, wide(n, w, -1), wide(n, w, 0))
			}
		}
	}
	for bit := range 64 {
		n := int64(1) << bit
		l = append(l, []int64{n - 1, n, n + 1, -n, -n - 1, -n + 1}, []int64{n}, []int64{-n}, []int64{n, -n, n}, []int64{0, n - 1}, []int64{0, n}, []int64{least, least + n, most, most - n})
	}
	return l
}

// otherCounts is counts far from those of most lists: below 0, about the greatest list, and the greatest ints.
func otherCounts() []int {
	return []int{-1, -2, -3, -api.MaxList, math.MinInt32, math.MinInt + 1, math.MinInt,
		api.MaxList - 1, api.MaxList, api.MaxList + 1, 1 << 20, math.MaxInt32, 1 << 32, math.MaxInt / 64, math.MaxInt/8 + 1, math.MaxInt - 1, math.MaxInt}
}

// wantGot is whether Get of b is the numbers that are named.
func wantGot(t *testing.T, b []byte, want []int64) {
	t.Helper()
	got, ok := tight.Get(b, len(want))
	if !ok || !slices.Equal(got, want) {
		t.Fatalf("Get of %d bytes, %d numbers: %v, %v, want %v", len(b), len(want), got[:min(len(got), 20)], ok, want[:min(len(want), 20)])
	}
}

// wantNone is whether b is not n numbers.
func wantNone(t *testing.T, b []byte, n int) {
	t.Helper()
	if got, ok := tight.Get(b, n); ok || len(got) != 0 {
		t.Fatalf("Get(% x, %d) = %v, %v, want nothing and false", b[:min(len(b), 60)], n, got[:min(len(got), 20)], ok)
	}
}

// wantNever is whether b is not any count of numbers.
func wantNever(t *testing.T, b []byte) {
	t.Helper()
	for n := -2; n < 8*len(b)+20; n++ {
		wantNone(t, b, n)
	}
	for _, n := range otherCounts() {
		wantNone(t, b, n)
	}
}

// wantByRule is whether b is read as the rule says, at n numbers.
func wantByRule(t *testing.T, b []byte, n int) {
	t.Helper()
	want, is := readByRule(b, n)
	if !is {
		wantNone(t, b, n)
		return
	}
	wantGot(t, b, want)
	if got := tight.Put(want); !bytes.Equal(got, b) {
		t.Fatalf("Get(% x, %d) = %v, whose Put is % x", b, n, want, got)
	}
}

func TestKnownBytes(t *testing.T) { // P7.1, P7.2
	high := bytes.Repeat([]byte{0xff}, 8)
	leastBytes := append(append([]byte{0xff}, high...), 1)
	mostBytes := append(append([]byte{0xfe}, high...), 1)
	for _, c := range []struct {
		l    []int64
		want []byte
	}{
		{nil, nil},
		{[]int64{}, nil},
		{[]int64{0}, []byte{0, 0}},
		{[]int64{0, 0, 0}, []byte{0, 0}},
		{[]int64{7, 7}, []byte{0x0e, 0}},
		{[]int64{-1}, []byte{1, 0}},
		{[]int64{5, 6, 8}, []byte{0x0a, 2, 0x34}},
		{[]int64{8, 6, 5}, []byte{0x0a, 2, 0x07}},
		{[]int64{0, 1}, []byte{0, 1, 2}},
		{[]int64{1, 0}, []byte{0, 1, 1}},
		{[]int64{1, 0, 0, 0, 0, 0, 0, 1}, []byte{0, 1, 0x81}},
		{[]int64{1, 0, 0, 0, 0, 0, 0, 1, 1}, []byte{0, 1, 0x81, 1}},
		{[]int64{1, 0, 0, 0, 0, 0, 0, 1, 0}, []byte{0, 1, 0x81, 0}},
		{[]int64{-2, 5, 3}, []byte{3, 3, 0x78, 1}},
		{[]int64{100, 355}, []byte{0xc8, 1, 8, 0, 0xff}},
		{[]int64{100, 356}, []byte{0xc8, 1, 9, 0, 0, 2}},
		{[]int64{-1, 255}, []byte{1, 9, 0, 0, 2}},
		{[]int64{0x0201, 0}, []byte{0, 10, 1, 2, 0}},
		{[]int64{least}, append(slices.Clone(leastBytes), 0)},
		{[]int64{most}, append(slices.Clone(mostBytes), 0)},
		{[]int64{least, most}, append(append(append(slices.Clone(leastBytes), 64), make([]byte, 8)...), high...)},
		{[]int64{most, least}, append(append(append(slices.Clone(leastBytes), 64), high...), make([]byte, 8)...)},
		{[]int64{0, least}, append(append(slices.Clone(leastBytes), 64), 0, 0, 0, 0, 0, 0, 0, 0x80, 0, 0, 0, 0, 0, 0, 0, 0)},
		{[]int64{-1, least}, append(append(slices.Clone(leastBytes), 63), 0xff, 0xff, 0xff, 0xff, 0xff, 0xff, 0xff, 0x7f, 0, 0, 0, 0, 0, 0, 0, 0)},
		{[]int64{0, most}, append(append([]byte{0, 63}, 0, 0, 0, 0, 0, 0, 0, 0x80), 0xff, 0xff, 0xff, 0xff, 0xff, 0xff, 0xff, 0x3f)},
	} {
		if got := tight.Put(c.l); !bytes.Equal(got, c.want) {
			t.Errorf("Put(%v) = % x, want % x", c.l, got, c.want)
		}
		wantGot(t, c.want, c.l)
	}
}

func TestPutByRule(t *testing.T) { // P7.1
	for _, l := range lists() {
		if got := tight.Put(l); !bytes.Equal(got, byRule(l)) {
			t.Fatalf("Put of %d numbers, %v first: other bytes than the rule's", len(l), l[:min(len(l), 8)])
		}
	}
}

func TestPutIsGot(t *testing.T) { // P7.2, P7.3
	for _, l := range lists() {
		wantGot(t, tight.Put(l), l)
		wantGot(t, byRule(l), l)
	}
}

func TestPutsOfFewKinds(t *testing.T) { // P7.1 to P7.3: all lists of five kinds, each with bytes of its own among those of as many numbers
	kinds := []int64{0, -1, 200, least, most}
	for n := range 6 {
		seen := map[string]bool{}
		l := make([]int64, n)
		for x := range int(math.Pow(float64(len(kinds)), float64(n))) {
			for i := range l {
				l[i] = kinds[x%len(kinds)]
				x /= len(kinds)
			}
			b := tight.Put(l)
			if seen[string(b)] || !bytes.Equal(b, byRule(l)) {
				t.Fatalf("Put(%v) = % x, want % x", l, b, byRule(l))
			}
			seen[string(b)] = true
			wantGot(t, b, l)
		}
	}
}

func TestOtherCounts(t *testing.T) { // P7.2
	for _, l := range lists() {
		b := tight.Put(l)
		for _, n := range append(otherCounts(), 0, 1, 2, len(l)-9, len(l)-8, len(l)-2, len(l)-1, len(l)+1, len(l)+2, len(l)+7, len(l)+8, len(b), -len(l)) {
			wantByRule(t, b, n)
		}
	}
}

func TestANumberMoreMayBeTheSameBytes(t *testing.T) { // P7.3: as the chapter says of how many there are
	for n := 1; n <= api.MaxList; n++ {
		wantGot(t, []byte{0x0e, 0}, rising(n, 7, 0))
	}
	b := []byte{0x0a, 2, 0x34}
	wantGot(t, b, []int64{5, 6, 8})
	wantGot(t, b, []int64{5, 6, 8, 5})
	wantNone(t, b, 2)
	wantNone(t, b, 5)
	wantGot(t, []byte{0, 1, 2}, []int64{0, 1, 0, 0, 0, 0, 0, 0})
	wantNone(t, []byte{0, 1, 2}, 1)
	wantNone(t, []byte{0, 1, 2}, 9)
	wantGot(t, []byte{0, 1, 2, 0}, []int64{0, 1, 0, 0, 0, 0, 0, 0, 0})
	wantNone(t, []byte{0, 1, 2, 0}, 8)
}

func TestMoreThanMaxList(t *testing.T) { // P7.1, P7.2: they are put, and not got
	for _, n := range []int{api.MaxList + 1, 2 * api.MaxList, 1 << 15} {
		for _, l := range [][]int64{rising(n, 0, 0), rising(n, -5, 3), drawn(n, 1), drawn(n, 20), drawn(n, 64)} {
			b := tight.Put(l)
			if !bytes.Equal(b, byRule(l)) {
				t.Fatalf("Put of %d numbers is other bytes than the rule's", n)
			}
			wantNone(t, b, n)
			for _, k := range []int{-1, 0, n - 1, n + 1, math.MaxInt} {
				if k > api.MaxList || k <= 0 {
					wantNone(t, b, k)
				}
			}
		}
	}
}

func TestBytesThatAreCut(t *testing.T) { // P7.2
	for _, l := range lists() {
		b := tight.Put(l)
		for size := range len(b) {
			if size < 30 || size > len(b)-30 {
				wantNone(t, b[:size], len(l))
			}
		}
	}
}

func TestBytesBehind(t *testing.T) { // P7.2
	for _, l := range lists() {
		b := tight.Put(l)
		for _, c := range []byte{0, 1, 2, 0x0a, 0x7f, 0x80, 0xff} {
			wantNone(t, append(slices.Clone(b), c), len(l))
			wantNone(t, append(slices.Clone(b), c, 0), len(l))
		}
		wantByRule(t, append(slices.Clone(b), b...), 2*len(l))
	}
}

func TestBitsBehindTheLastNumber(t *testing.T) { // P7.1, P7.2
	for w := 1; w <= 64; w++ {
		for n := 2; n < 18; n++ {
			b := tight.Put(wide(n, w, least))
			if n*w%8 == 0 {
				continue
			}
			for bit := n * w % 8; bit < 8; bit++ {
				if b[len(b)-1]>>bit != 0 {
					t.Fatalf("bits behind the last of %d numbers of %d bits are set: % x", n, w, b)
				}
				other := slices.Clone(b)
				other[len(b)-1] |= 1 << bit
				wantNone(t, other, n)
			}
		}
	}
}

func TestMoreBitsThanAreNeeded(t *testing.T) { // P7.2, P7.3
	for n := 1; n < 18; n++ {
		for w := 1; w < 256; w++ {
			for _, low := range []int64{0, -1, 7, least, most} { // all of them the least: no bits are needed
				wantNone(t, append(head(low, w), make([]byte, (n*w+7)/8)...), n)
			}
		}
	}
	for w := 1; w <= 64; w++ {
		for n := 2; n < 12; n++ {
			l := wide(n, w, least)
			wantGot(t, inBits(l, w), l)
			wantNone(t, inBits(l, w+1), n)
			wantNone(t, inBits(l, w+2), n)
			wantNone(t, inBits(l, w+8), n)
		}
	}
}

// inBits is l's bytes, if each number had w bits, needed or not.
func inBits(l []int64, w int) []byte {
	low := slices.Min(l)
	body := make([]byte, (len(l)*w+7)/8)
	for i, x := range l {
		for j := range min(w, 64) {
			at := i*w + j
			body[at/8] |= byte((uint64(x)-uint64(low))>>j&1) << (at % 8)
		}
	}
	return append(head(low, w), body...)
}

func TestLeastNumberThatNoneIs(t *testing.T) { // P7.2, P7.3
	for w := 1; w <= 64; w++ {
		for n := 1; n < 12; n++ {
			l := make([]int64, n) // each one as much more than the least as can be
			for i := range l {
				l[i] = int64(uint64(1)<<63 + ^uint64(0)>>(64-w))
			}
			b := inBits(append(l, least), w)
			wantGot(t, b, append(l, least))
			b = append(head(least, w), inBits(append(l, least), w)[len(head(least, w)):][:(n*w+7)/8]...)
			wantNone(t, b, n)
		}
	}
}

func TestNumbersAboveTheGreatest(t *testing.T) { // P7.2: none of them wraps round
	for w := 1; w <= 64; w++ {
		body := slices.Concat(make([]byte, w), bytes.Repeat([]byte{0xff}, w)) // eight of the least, eight of the greatest
		spread := ^uint64(0) >> (64 - w)
		top := int64(uint64(most) - spread) // with this one the greatest is the greatest int64
		wantGot(t, append(head(top, w), body...), slices.Concat(rising(8, top, 0), rising(8, most, 0)))
		for _, up := range []uint64{1, 2, 100, spread} {
			if up <= spread {
				wantNone(t, append(head(top+int64(up), w), body...), 16)
			}
		}
	}
}

func TestBytesThatAreNoNumbers(t *testing.T) { // P7.2, P7.3
	high := bytes.Repeat([]byte{0xff}, 9)
	for _, b := range [][]byte{
		{0},
		{0x0a},
		{0x80},
		{0x80, 0},
		{0x8a, 0, 0},
		{0xac, 0x82, 0, 0},
		{0xac, 0x82, 0, 1, 2},
		{0x80, 0x80, 0x80},
		high,
		append(high[:9:9], 0, 0),
		append(high[:9:9], 2, 0),
		append(high[:9:9], 0x80, 0),
		append(high[:9:9], 0x80, 1, 0),
		append(high[:9:9], 0xff, 1, 1, 2),
		{0, 1},
		{0, 64},
		{0, 65},
		{0, 128},
		{0, 255},
		append([]byte{1, 65}, make([]byte, 65)...),
		append([]byte{1, 72}, make([]byte, 9)...),
		append([]byte{1, 128}, append(make([]byte, 16), high[:8]...)...),
		append([]byte{1, 255}, make([]byte, 255)...),
	} {
		wantNever(t, b)
	}
	for _, n := range append(otherCounts(), 1, 2) {
		wantNone(t, nil, n)
		wantNone(t, []byte{}, n)
	}
	wantGot(t, nil, nil)
	wantGot(t, []byte{}, nil)
	wantNone(t, []byte{0, 0}, 0)
	wantNone(t, []byte{0}, 0)
}

func TestWidthsOfAByte(t *testing.T) { // P7.2: each width, about as many bytes as its numbers need
	for w := range 256 {
		for n := 1; n < 14; n++ {
			for _, fill := range []byte{0, 1, 0x80, 0xff} {
				for more := -1; more < 2; more++ {
					size := max((n*w+7)/8+more, 0)
					b := append(head(-1, w), bytes.Repeat([]byte{fill}, size)...)
					wantByRule(t, b, n)
				}
			}
		}
	}
}

func TestNoBytesAreTwoLists(t *testing.T) { // P7.2, P7.3: all short bytes
	counts := func(b []byte) {
		for n := -1; n < 8*len(b)+2; n++ {
			wantByRule(t, b, n)
		}
		wantByRule(t, b, api.MaxList)
		wantByRule(t, b, api.MaxList+1)
	}
	counts(nil)
	for i := range 256 {
		counts([]byte{byte(i)})
	}
	for i := range 1 << 16 {
		b := []byte{byte(i), byte(i >> 8)}
		for n := range 3 {
			wantByRule(t, b, n)
		}
		for w := byte(1); w < 6; w++ {
			whole := append([]byte{1, w}, b...)
			for n := 16/int(w) - 2; n < 16/int(w)+1; n++ {
				wantByRule(t, whole, n)
			}
		}
	}
	kinds := []byte{0, 1, 2, 3, 8, 0x7f, 0x80, 0xff}
	for size := 3; size < 5; size++ {
		b := make([]byte, size)
		for x := range int(math.Pow(float64(len(kinds)), float64(size))) {
			for i := range b {
				b[i] = kinds[x%len(kinds)]
				x /= len(kinds)
			}
			counts(b)
		}
	}
}

func TestCallsHangOnNoOther(t *testing.T) { // rule 4
	l, other := []int64{5, 6, 8}, []int64{-100, most, 3}
	b := tight.Put(l)
	tight.Put(other)
	tight.Get(tight.Put(other), 3)
	tight.Get([]byte{0x0a, 0x80}, 2)
	if got := tight.Put(l); !bytes.Equal(got, b) {
		t.Fatalf("Put(%v) = % x, and % x behind others", l, b, got)
	}
	wantGot(t, b, l)
	tight.Get(tight.Put(other), 3)
	tight.Get(b, 9)
	wantGot(t, b, l)
}

func TestNothingIsSharedOrChanged(t *testing.T) { // rules 3 and 4
	for _, l := range [][]int64{{7}, {7, 7, 7}, {1, 2, 2, -3}, rising(200, -5, 77), drawn(50, 64)} {
		behind := append(slices.Clone(l), -1, 99)
		handed := behind[:len(l)]
		b := tight.Put(handed)
		was := slices.Clone(b)
		room := append(slices.Clone(b), 0, 9)[:len(b)]
		got, _ := tight.Get(room, len(l))
		other, _ := tight.Get(room, len(l))
		for i := range got {
			got[i] = -77
		}
		_ = append(got, 1, 2, 3)
		if !slices.Equal(other, l) || !bytes.Equal(room, was) || room[:len(b)+2][len(b)+1] != 9 || !slices.Equal(handed, l) || behind[len(l)] != -1 || behind[len(l)+1] != 99 {
			t.Fatal("what was handed in is changed, or two answers share memory")
		}
		clear(room)
		clear(b)
		if !slices.Equal(other, l) || !bytes.Equal(tight.Put(handed), was) {
			t.Fatal("what is answered shares memory with what was handed in, or is another one the second time")
		}
		b = tight.Put(handed)
		clear(handed)
		if !bytes.Equal(b, was) {
			t.Fatal("the bytes turned with their numbers")
		}
	}
}
