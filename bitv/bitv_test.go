package bitv_test

import (
	"bytes"
	"math"
	"math/bits"
	"slices"
	"testing"

	"firkin/bitv"
)

// drawn is n truths, drawn by a rule of their place; of them about share of 8 are true.
func drawn(n, share int) []bool {
	l := make([]bool, n)
	state := uint32(n)*2654435761 + uint32(share)*40503 + 12345
	for i := range l {
		state = state*1664525 + 1013904223
		l[i] = int(state>>29) < share
	}
	return l
}

// all is n truths that are all the same.
func all(n int, is bool) []bool {
	l := make([]bool, n)
	for i := range l {
		l[i] = is
	}
	return l
}

// lists is truths of many sizes, all those about the ends of bytes among them.
func lists() [][]bool {
	l := [][]bool{nil, {}}
	for n := range 70 {
		l = append(l, all(n, true), all(n, false), drawn(n, 4), drawn(n, 1), drawn(n, 7))
	}
	for _, n := range []int{127, 128, 129, 200, 255, 256, 257, 4095, 4096, 4097, 65535, 65536, 65537} {
		l = append(l, all(n, true), all(n, false), drawn(n, 4))
	}
	return l
}

// ofNumber is the n lowest bits of x, the lowest first.
func ofNumber(x, n int) []bool {
	l := make([]bool, n)
	for i := range l {
		l[i] = x>>i&1 == 1
	}
	return l
}

// byRule is l's bytes as the chapter says them, bit by bit.
func byRule(l []bool) []byte {
	var b []byte
	for i, is := range l {
		if i%8 == 0 {
			b = append(b, 0)
		}
		if is {
			b[i/8] += byte(math.Pow(2, float64(i%8)))
		}
	}
	return b
}

// wantTruths is whether b has the n truths that are named.
func wantTruths(t *testing.T, b []byte, want []bool) {
	t.Helper()
	got, ok := bitv.Unpack(b, len(want))
	if !ok || !slices.Equal(got, want) {
		t.Fatalf("Unpack(% x, %d) = %v, %v, want %v", b, len(want), got, ok, want)
	}
}

// wantNone is whether b is not n truths.
func wantNone(t *testing.T, b []byte, n int) {
	t.Helper()
	if got, ok := bitv.Unpack(b, n); ok || len(got) != 0 {
		t.Fatalf("Unpack of %d bytes, %d truths: %d truths, %v, want nothing and false", len(b), n, len(got), ok)
	}
}

func TestKnownBytes(t *testing.T) { // P4.1
	const o, i = false, true
	for _, c := range []struct {
		l    []bool
		want []byte
	}{
		{nil, nil},
		{[]bool{}, nil},
		{[]bool{o}, []byte{0}},
		{[]bool{i}, []byte{1}},
		{[]bool{i, o, i}, []byte{0x05}},
		{[]bool{o, i, i}, []byte{0x06}},
		{[]bool{o, o, o, o, o, o, o, i}, []byte{0x80}},
		{[]bool{i, i, i, i, i, i, i, i}, []byte{0xff}},
		{[]bool{i, i, i, i, i, i, i, i, o}, []byte{0xff, 0}},
		{[]bool{o, o, o, o, o, o, o, o, i}, []byte{0, 1}},
		{[]bool{i, o, o, o, o, o, o, o, o, i, o, o, i}, []byte{0x01, 0x12}},
	} {
		if got := bitv.Pack(c.l); !bytes.Equal(got, c.want) {
			t.Errorf("Pack(%v) = % x, want % x", c.l, got, c.want)
		}
		wantTruths(t, c.want, c.l)
	}
}

func TestPackByRule(t *testing.T) { // P4.1
	for _, l := range lists() {
		if got := bitv.Pack(l); !bytes.Equal(got, byRule(l)) {
			t.Fatalf("Pack of %d truths is other bytes than the rule's", len(l))
		}
	}
}

func TestPackedIsUnpacked(t *testing.T) { // P4.3
	for _, l := range lists() {
		wantTruths(t, bitv.Pack(l), l)
	}
	for n := range 12 {
		for x := range 1 << n {
			wantTruths(t, bitv.Pack(ofNumber(x, n)), ofNumber(x, n))
		}
	}
}

func TestUnpackedIsPacked(t *testing.T) { // P4.1: each truths' bytes are one list of bytes alone
	for n := range 17 {
		for x := range 1 << 16 {
			b := []byte{byte(x), byte(x >> 8)}[:(n+7)/8]
			if bits.Len(uint(x)) > 8*len(b) {
				break
			}
			l, ok := bitv.Unpack(b, n)
			if ok != (x < 1<<n) || ok && !bytes.Equal(bitv.Pack(l), b) || !ok && len(l) != 0 {
				t.Fatalf("Unpack(% x, %d) = %v, %v", b, n, l, ok)
			}
		}
	}
}

func TestBitsBeyond(t *testing.T) { // P4.1
	for n := range 130 {
		for _, l := range [][]bool{all(n, true), all(n, false), drawn(n, 4)} {
			b := bitv.Pack(l)
			for bit := n; bit < 8*len(b); bit++ {
				b[bit/8] |= 1 << (bit % 8)
				wantNone(t, b, n)
				b[bit/8] &^= 1 << (bit % 8)
			}
			wantTruths(t, b, l)
		}
	}
}

func TestOtherCountOfBytes(t *testing.T) { // P4.1
	for n := range 70 {
		need := (n + 7) / 8
		for size := range 12 {
			if size == need {
				wantTruths(t, make([]byte, size), all(n, false))
			} else {
				wantNone(t, make([]byte, size), n)
			}
		}
		b := bitv.Pack(drawn(n, 4))
		wantNone(t, append(slices.Clone(b), 0), n)
		wantNone(t, append(slices.Clone(b), 1), n)
		if len(b) > 0 {
			wantNone(t, b[:len(b)-1], n)
			wantNone(t, b[1:], n)
		}
	}
}

func TestCountsThatAreNone(t *testing.T) { // P4.1, rules 1 and 5
	for _, n := range []int{-1, -2, -7, -8, -9, -16, math.MinInt32, math.MinInt + 7, math.MinInt + 1, math.MinInt,
		math.MaxInt32, math.MaxInt - 8, math.MaxInt - 7, math.MaxInt - 6, math.MaxInt - 1, math.MaxInt} {
		for _, b := range [][]byte{nil, {}, {0}, {1}, {0xff}, make([]byte, 100)} {
			wantNone(t, b, n)
		}
	}
}

func TestNoTruths(t *testing.T) { // P4.1, P4.2, rule 3
	for _, none := range [][]bool{nil, {}} {
		if len(bitv.Pack(none)) != 0 || bitv.Count(none) != 0 || len(bitv.Places(none)) != 0 || len(bitv.Or(none, nil)) != 0 || len(bitv.Or(nil, none)) != 0 {
			t.Error("something is told of no truths")
		}
	}
	wantTruths(t, nil, nil)
	wantTruths(t, []byte{}, nil)
	wantNone(t, []byte{0}, 0)
}

func TestCountAndPlaces(t *testing.T) { // P4.2
	for _, c := range []struct {
		l    []bool
		want []int
	}{
		{[]bool{true}, []int{0}},
		{[]bool{false}, nil},
		{[]bool{true, false, true}, []int{0, 2}},
		{[]bool{false, true, true, false}, []int{1, 2}},
		{[]bool{false, false, false, false, false, false, false, true, true}, []int{7, 8}},
	} {
		if n, at := bitv.Count(c.l), bitv.Places(c.l); n != len(c.want) || !slices.Equal(at, c.want) {
			t.Errorf("of %v: count %d, places %v, want %v", c.l, n, at, c.want)
		}
	}
}

func TestPlacesAreWhereItIsTrue(t *testing.T) { // P4.2
	for _, l := range lists() {
		at := bitv.Places(l)
		again := make([]bool, len(l))
		for k, i := range at {
			if k > 0 && at[k-1] >= i {
				t.Fatalf("places %d and %d do not rise", at[k-1], i)
			}
			again[i] = true
		}
		if !slices.Equal(again, l) || bitv.Count(l) != len(at) {
			t.Fatalf("of %d truths: count %d, %d places, and not where they are true", len(l), bitv.Count(l), len(at))
		}
	}
}

func TestCountIsOfItsBytes(t *testing.T) { // P4.2, P4.3
	for _, l := range lists() {
		n := 0
		for _, c := range bitv.Pack(l) {
			n += bits.OnesCount8(c)
		}
		if bitv.Count(l) != n {
			t.Fatalf("of %d truths: count %d, its bytes have %d", len(l), bitv.Count(l), n)
		}
	}
}

// orByRule is whether either is true, place by place.
func orByRule(a, b []bool) []bool {
	var l []bool
	for i := 0; i < len(a) || i < len(b); i++ {
		l = append(l, i < len(a) && a[i] || i < len(b) && b[i])
	}
	return l
}

func TestOr(t *testing.T) { // P4.2
	for n := range 6 {
		for m := range 6 {
			for x := range 1 << n {
				for y := range 1 << m {
					a, b := ofNumber(x, n), ofNumber(y, m)
					if got := bitv.Or(a, b); !slices.Equal(got, orByRule(a, b)) {
						t.Fatalf("Or(%v, %v) = %v", a, b, got)
					}
				}
			}
		}
	}
	for _, n := range []int{0, 1, 8, 63, 200, 4096} {
		for _, m := range []int{0, 1, 9, 64, 199, 4096, 5000} {
			a, b := drawn(n, 3), drawn(m, 2)
			if got := bitv.Or(a, b); !slices.Equal(got, orByRule(a, b)) {
				t.Fatalf("Or of %d and %d truths is another list than the rule's", n, m)
			}
		}
	}
}

func TestCountOfOr(t *testing.T) { // P4.3
	l := lists()
	for i := range l {
		for _, b := range [][]bool{l[i], l[(i*7+3)%len(l)], l[len(l)-1-i]} {
			or, x, y := bitv.Count(bitv.Or(l[i], b)), bitv.Count(l[i]), bitv.Count(b)
			if or > x+y || or < max(x, y) {
				t.Fatalf("counts %d and %d, of Or %d", x, y, or)
			}
		}
	}
}

func TestNothingIsSharedOrChanged(t *testing.T) { // rules 3 and 4
	for _, n := range []int{0, 1, 7, 8, 9, 40} {
		for _, m := range []int{0, 1, 8, 40, 41} {
			a, b := drawn(n, 4), drawn(m, 4)
			behindA, behindB := append(a, true, true)[:n], append(b, true, true)[:m] // room behind their ends
			or := bitv.Or(behindA, behindB)
			want := slices.Clone(or)
			for _, l := range [][]bool{or, bitv.Or(behindB, behindA), bitv.Or(behindA, behindA)} {
				l = append(l, true, true, true)
				for i := range l {
					l[i] = !l[i]
				}
			}
			if !slices.Equal(behindA, drawn(n, 4)) || !slices.Equal(behindB, drawn(m, 4)) {
				t.Fatal("Or changes a list, or shares memory with it")
			}
			if !slices.Equal(bitv.Or(behindA, behindB), want) {
				t.Fatal("Or of the same lists is another one the second time")
			}
		}
	}
}

func TestPackedSharesNothing(t *testing.T) { // rules 3 and 4
	for _, n := range []int{1, 7, 8, 9, 40} {
		l := drawn(n, 4)
		b := bitv.Pack(l)
		was := slices.Clone(b)
		one, _ := bitv.Unpack(b, n)
		two, _ := bitv.Unpack(b, n)
		for i := range one {
			one[i] = !one[i]
		}
		at := bitv.Places(l)
		for i := range at {
			at[i] = -1
		}
		bitv.Count(l)
		if !slices.Equal(two, l) || !bytes.Equal(b, was) || !slices.Equal(l, drawn(n, 4)) {
			t.Fatal("what was handed in is changed, or two answers share memory")
		}
		for i := range b {
			b[i] = ^b[i]
		}
		if !slices.Equal(two, drawn(n, 4)) || !bytes.Equal(bitv.Pack(l), was) {
			t.Fatal("what is unpacked shares memory with its bytes")
		}
	}
}
