package crc_test

import (
	"bytes"
	"hash/crc32"
	"math"
	"slices"
	"testing"

	"firkin/crc"
)

// bitwise is the chapter's rule as it stands, a bit at a time.
func bitwise(sum uint32, b []byte) uint32 {
	state := ^sum
	for _, c := range b {
		state ^= uint32(c)
		for range 8 {
			out := state & 1
			state >>= 1
			if out == 1 {
				state ^= 0x82f63b78
			}
		}
	}
	return ^state
}

// some is n bytes, drawn by a rule of their place.
func some(n int) []byte {
	b := make([]byte, n)
	state := uint32(n)*2654435761 + 12345
	for i := range b {
		state = state*1664525 + 1013904223
		b[i] = byte(state >> 24)
	}
	return b
}

// sums is such as a sum goes on from: the edges, each bit alone, and some others.
func sums() []uint32 {
	l := []uint32{0, math.MaxUint32, math.MaxInt32, 0x82f63b78, 0xe3069283, 0xdeadbeef, 0x0f0f0f0f}
	for i := range 32 {
		l = append(l, 1<<i, ^(uint32(1) << i))
	}
	return l
}

// lists is bytes of many sizes and kinds.
func lists() [][]byte {
	l := [][]byte{nil, {}, []byte("123456789"), bytes.Repeat([]byte{0}, 300), bytes.Repeat([]byte{0xff}, 300)}
	for n := range 70 {
		l = append(l, some(n))
	}
	return append(l, some(192), some(4096), some(70001))
}

func TestKnownSums(t *testing.T) { // P2.1
	rising, falling := make([]byte, 32), make([]byte, 32)
	for i := range rising {
		rising[i], falling[31-i] = byte(i), byte(i)
	}
	for _, c := range []struct {
		b    []byte
		want uint32
	}{
		{nil, 0},
		{[]byte{}, 0},
		{[]byte{0}, 0x527d5351},
		{[]byte("a"), 0xc1d04330},
		{[]byte("123456789"), 0xe3069283},
		{make([]byte, 32), 0x8a9136aa},
		{bytes.Repeat([]byte{0xff}, 32), 0x62a8ab43},
		{rising, 0x46dd794e},
		{falling, 0x113fdb5c},
	} {
		if got := crc.Of(c.b); got != c.want {
			t.Errorf("Of(% x) = %08x, want %08x", c.b, got, c.want)
		}
		if got := crc.More(0, c.b); got != c.want {
			t.Errorf("More(0, % x) = %08x, want %08x", c.b, got, c.want)
		}
	}
}

func TestEachByte(t *testing.T) { // P2.1
	for _, sum := range sums() {
		for i := range 256 {
			b := []byte{byte(i)}
			if got, want := crc.More(sum, b), bitwise(sum, b); got != want {
				t.Fatalf("More(%08x, % x) = %08x, want %08x", sum, b, got, want)
			}
		}
	}
	for i := range 1 << 16 {
		b := []byte{byte(i), byte(i >> 8)}
		if got, want := crc.Of(b), bitwise(0, b); got != want {
			t.Fatalf("Of(% x) = %08x, want %08x", b, got, want)
		}
	}
}

func TestMoreOfAnySum(t *testing.T) { // P2.1
	table := crc32.MakeTable(crc32.Castagnoli)
	for _, b := range lists() {
		for _, sum := range sums() {
			if got, want := crc.More(sum, b), crc32.Update(sum, table, b); got != want {
				t.Fatalf("More(%08x, %d bytes) = %08x, want %08x", sum, len(b), got, want)
			}
		}
		if got, want := crc.Of(b), bitwise(0, b); got != want {
			t.Fatalf("Of(%d bytes) = %08x, want %08x", len(b), got, want)
		}
	}
}

func TestMoreOfNothing(t *testing.T) { // P2.1
	for _, sum := range sums() {
		if crc.More(sum, nil) != sum || crc.More(sum, []byte{}) != sum {
			t.Errorf("More of %08x and no bytes is another sum", sum)
		}
	}
}

func TestOfParts(t *testing.T) { // P2.1
	if crc.Of() != 0 || crc.Of(nil) != 0 || crc.Of(nil, []byte{}, nil) != 0 || crc.Of([][]byte{}...) != 0 {
		t.Error("no bytes have a sum that is not 0")
	}
	nine := []byte("123456789")
	for _, parts := range [][][]byte{
		{nine},
		{nil, nine},
		{nine, nil},
		{[]byte("1234"), nil, {}, []byte("56789")},
		{[]byte("1"), []byte("2"), []byte("3"), []byte("4"), []byte("5"), []byte("6"), []byte("7"), []byte("8"), []byte("9")},
	} {
		if got := crc.Of(parts...); got != 0xe3069283 {
			t.Errorf("Of(%q) = %08x", parts, got)
		}
	}
	l := lists()
	if got, want := crc.Of(l...), bitwise(0, bytes.Join(l, nil)); got != want {
		t.Errorf("Of many parts = %08x, want %08x", got, want)
	}
	if crc.Of([]byte("ab"), []byte("c")) == crc.Of([]byte("c"), []byte("ab")) {
		t.Error("parts in another order have the same sum")
	}
}

func TestNothingIsKeptOrChanged(t *testing.T) { // rules 3 and 4
	parts := [][]byte{some(5), some(64), nil, some(3)}
	var was [][]byte
	for _, p := range parts {
		was = append(was, bytes.Clone(p))
	}
	sum := crc.Of(parts...)
	crc.More(7, parts[1])
	if !slices.EqualFunc(parts, was, bytes.Equal) {
		t.Error("what was handed in is changed")
	}
	parts[1][9]++
	if crc.Of(parts...) == sum {
		t.Error("other bytes have the sum of those ahead of them")
	}
	if crc.Of(was...) != sum {
		t.Error("the same bytes have another sum the second time")
	}
}

func TestMoreGoesOn(t *testing.T) { // P2.2
	b := some(200)
	for _, sum := range []uint32{0, 1, math.MaxUint32, 0xdeadbeef} {
		whole := crc.More(sum, b)
		for cut := range len(b) + 1 {
			if got := crc.More(crc.More(sum, b[:cut]), b[cut:]); got != whole {
				t.Fatalf("cut at %d, from %08x on: %08x, want %08x", cut, sum, got, whole)
			}
		}
	}
	for cut := range len(b) + 1 {
		head, tail := b[:cut], b[cut:]
		if crc.Of(head, tail) != crc.More(crc.Of(head), tail) || crc.Of(head, tail) != crc.Of(b) {
			t.Fatalf("of two parts, cut at %d, it is not More of the first one's", cut)
		}
	}
}

// turned is whether b has another sum when the bytes at a place are turned by those of turn; b is as it was behind that.
func turned(b []byte, at int, turn ...byte) bool {
	was := crc.Of(b)
	for i, x := range turn {
		b[at+i] ^= x
	}
	other := crc.Of(b) != was
	for i, x := range turn {
		b[at+i] ^= x
	}
	return other
}

func TestOneByteTurned(t *testing.T) { // P2.2
	for _, size := range []int{1, 2, 9, 64, 192, 500} {
		b := some(size)
		for at := range b {
			for x := 1; x < 256; x++ {
				if !turned(b, at, byte(x)) {
					t.Fatalf("byte %d of %d, turned by %02x, has the same sum", at, size, x)
				}
			}
		}
	}
}

func TestTwoBytesTurned(t *testing.T) { // P2.2
	for _, c := range [][2]int{{2, 0}, {64, 0}, {64, 31}, {64, 62}} {
		b := some(c[0])
		for x := 1; x < 1<<16; x++ {
			if !turned(b, c[1], byte(x), byte(x>>8)) {
				t.Fatalf("bytes from %d on of %d, turned by %04x, have the same sum", c[1], c[0], x)
			}
		}
	}
}

func TestThreeAndFourBytesTurned(t *testing.T) { // P2.2
	kinds := []byte{0, 1, 0x0f, 0x10, 0x55, 0x78, 0x80, 0x82, 0xaa, 0xf6, 0xff}
	for _, size := range []int{4, 11, 64} {
		b := some(size)
		for at := range size - 3 {
			for i := 1; i < len(kinds)*len(kinds)*len(kinds)*len(kinds); i++ {
				n := len(kinds)
				w, x, y, z := kinds[i%n], kinds[i/n%n], kinds[i/n/n%n], kinds[i/n/n/n]
				if !turned(b, at, w, x, y, z) {
					t.Fatalf("bytes from %d on of %d, turned by %02x %02x %02x %02x, have the same sum", at, size, w, x, y, z)
				}
			}
		}
	}
}

// TestFourBytesAnyTurn is for all 2^32 turns at once: a turn's sum is made of its bits' sums, so none comes to nothing if none of the 32 is made of the others.
func TestFourBytesAnyTurn(t *testing.T) { // P2.2
	for _, size := range []int{4, 5, 64, 300} {
		b := some(size)
		was := crc.Of(b)
		for _, at := range []int{0, (size - 4) / 2, size - 4} {
			var top [32]uint32 // by its highest bit
			for bit := range 32 {
				b[at+bit/8] ^= 1 << (bit % 8)
				turn := crc.Of(b) ^ was
				b[at+bit/8] ^= 1 << (bit % 8)
				for i := 31; i >= 0; i-- {
					if turn>>i&1 == 1 && top[i] == 0 {
						top[i] = turn
						break
					} else if turn>>i&1 == 1 {
						turn ^= top[i]
					}
				}
				if turn == 0 {
					t.Fatalf("of %d bytes from %d on, bit %d's turn is undone by the bits ahead of it", size, at, bit)
				}
			}
		}
	}
}
