package vint_test

import (
	"bytes"
	"encoding/binary"
	"math"
	"strings"
	"testing"

	"firkin/vint"
)

// highs is n bytes that say that another one follows, and then those of tail.
func highs(n int, tail ...byte) []byte {
	return append(bytes.Repeat([]byte{0xff}, n), tail...)
}

// edges is the numbers around those at which a byte, or a bit, more is needed.
func edges() []uint64 {
	l := []uint64{0, 5, 300, 1 << 20, 123456789012345678, math.MaxUint64}
	for i := range 64 {
		n := uint64(1) << i
		l = append(l, n-1, n, n+1)
	}
	return l
}

// texts is some of no bytes, of few, of as many as need a longer number, and of such as are no runes.
func texts() []string {
	return []string{"", "a", "ab", "häß", "\x00", "\xff\x80", "\x80\x00", strings.Repeat("x", 127), strings.Repeat("y", 128), strings.Repeat("z", 20000)}
}

func TestNumWrites(t *testing.T) { // P1.1
	for _, c := range []struct {
		n    uint64
		want []byte
	}{
		{0, []byte{0}},
		{1, []byte{1}},
		{127, []byte{0x7f}},
		{128, []byte{0x80, 1}},
		{300, []byte{0xac, 2}},
		{16383, []byte{0xff, 0x7f}},
		{16384, []byte{0x80, 0x80, 1}},
		{1<<63 - 1, highs(8, 0x7f)},
		{1 << 63, []byte{0x80, 0x80, 0x80, 0x80, 0x80, 0x80, 0x80, 0x80, 0x80, 1}},
		{math.MaxUint64, highs(9, 1)},
	} {
		if got := vint.Num(c.n); !bytes.Equal(got, c.want) {
			t.Errorf("Num(%d) = % x, want % x", c.n, got, c.want)
		}
	}
	for _, n := range edges() {
		if got, want := vint.Num(n), binary.AppendUvarint(nil, n); !bytes.Equal(got, want) {
			t.Errorf("Num(%d) = % x, want % x", n, got, want)
		}
	}
}

func TestIntWrites(t *testing.T) { // P1.1
	for _, c := range []struct {
		n    int64
		want []byte
	}{
		{0, []byte{0}},
		{-1, []byte{1}},
		{1, []byte{2}},
		{-2, []byte{3}},
		{63, []byte{0x7e}},
		{-64, []byte{0x7f}},
		{64, []byte{0x80, 1}},
		{-65, []byte{0x81, 1}},
		{math.MaxInt64, append([]byte{0xfe}, highs(8, 1)...)},
		{math.MinInt64, highs(9, 1)},
	} {
		if got := vint.Int(c.n); !bytes.Equal(got, c.want) {
			t.Errorf("Int(%d) = % x, want % x", c.n, got, c.want)
		}
	}
	for _, u := range edges() {
		n := int64(u)
		if got, want := vint.Int(n), binary.AppendVarint(nil, n); !bytes.Equal(got, want) {
			t.Errorf("Int(%d) = % x, want % x", n, got, want)
		}
	}
}

func TestTextWrites(t *testing.T) { // P1.1
	for _, c := range []struct {
		s    string
		want []byte
	}{
		{"", []byte{0}},
		{"ab", []byte{2, 'a', 'b'}},
		{"ä", []byte{2, 0xc3, 0xa4}},
		{"\x00\xff", []byte{2, 0, 0xff}},
	} {
		if got := vint.Text(c.s); !bytes.Equal(got, c.want) {
			t.Errorf("Text(%q) = % x, want % x", c.s, got, c.want)
		}
	}
	for _, s := range texts() {
		if got, want := vint.Text(s), string(vint.Num(uint64(len(s))))+s; string(got) != want {
			t.Errorf("Text of %d bytes is % x", len(s), got)
		}
	}
}

func TestWrittenIsNew(t *testing.T) { // rule 3
	a, b := vint.Num(7), vint.Text("ab")
	a[0], b[1] = 9, 9
	if a, b := vint.Num(7), vint.Text("ab"); a[0] != 7 || b[1] != 'a' {
		t.Error("what was answered is shared", a, b)
	}
}

func TestReadsInOrder(t *testing.T) { // P1.2
	var b []byte
	for _, p := range [][]byte{vint.Num(300), vint.Int(-5), vint.Num(6), vint.Text("häß"), {1, 2, 3}, vint.Num(math.MaxUint64)} {
		b = append(b, p...)
	}
	s := vint.From(b)
	left := len(b)
	step := func(what string, right bool, size int) {
		t.Helper()
		left -= size
		if !right || s.Left() != left || !s.Ok() || s.End() != (left == 0) {
			t.Fatalf("%s: right %v, left %d, want %d, ok %v, end %v", what, right, s.Left(), left, s.Ok(), s.End())
		}
	}
	step("From", true, 0)
	step("Num", s.Num() == 300, 2)
	step("Int", s.Int() == -5, 1)
	step("Below", s.Below(7) == 6, 1)
	step("Text", s.Text(40) == "häß", 6)
	step("Take of none", len(s.Take(0)) == 0, 0)
	step("Take", bytes.Equal(s.Take(3), []byte{1, 2, 3}), 3)
	step("Num", s.Num() == math.MaxUint64, 10)
	step("Take of none at the end", len(s.Take(0)) == 0, 0)
}

// wantFailed is whether each call of s tells what one that failed tells.
func wantFailed(t *testing.T, what string, s *vint.Source) {
	t.Helper()
	for range 2 {
		if s.Ok() || s.End() || s.Left() != 0 {
			t.Fatalf("%s: ok %v, end %v, left %d", what, s.Ok(), s.End(), s.Left())
		}
		if n, i, k := s.Num(), s.Int(), s.Below(math.MaxInt); n != 0 || i != 0 || k != 0 {
			t.Fatalf("%s: tells %d, %d, %d", what, n, i, k)
		}
		if x, y, z := s.Text(math.MaxInt), s.Take(0), s.Take(1); x != "" || len(y) != 0 || len(z) != 0 {
			t.Fatalf("%s: tells %q, % x, % x", what, x, y, z)
		}
		s.Fail()
	}
}

func TestNumFails(t *testing.T) { // P1.2
	for _, b := range [][]byte{
		nil,
		{0x80},
		highs(9),
		highs(10),
		{0x80, 0},
		{0x80, 0, 7},
		{0xff, 0x80, 0},
		highs(8, 0x80, 0),
		highs(9, 0),
		highs(9, 2),
		highs(9, 0x7f),
		highs(9, 0x80),
		highs(9, 0x81, 0),
		highs(9, 0x80, 1),
		highs(12, 1),
	} {
		s := vint.From(b)
		if n := s.Num(); n != 0 {
			t.Errorf("Num of % x tells %d", b, n)
		}
		wantFailed(t, "Num", s)
		s = vint.From(b)
		if n := s.Int(); n != 0 {
			t.Errorf("Int of % x tells %d", b, n)
		}
		wantFailed(t, "Int", s)
		s = vint.From(b)
		if n := s.Below(math.MaxInt); n != 0 {
			t.Errorf("Below of % x tells %d", b, n)
		}
		wantFailed(t, "Below", s)
		s = vint.From(b)
		if x := s.Text(math.MaxInt); x != "" {
			t.Errorf("Text of % x tells %q", b, x)
		}
		wantFailed(t, "Text", s)
	}
}

func TestBelow(t *testing.T) { // P1.2
	const most = math.MaxInt
	for _, c := range []struct {
		n    uint64
		edge int
		ok   bool
	}{
		{0, 1, true}, {0, 0, false}, {0, -1, false}, {0, math.MinInt, false},
		{5, 6, true}, {5, 5, false}, {5, 4, false}, {5, -6, false}, {5, math.MinInt, false}, {5, most, true},
		{most - 1, most, true}, {most, most, false}, {most + 1, most, false},
		{most + 1, math.MinInt, false}, {math.MaxUint64, most, false}, {math.MaxUint64, -1, false}, {math.MaxUint64, 0, false},
	} {
		s := vint.From(append(vint.Num(c.n), 9))
		got := s.Below(c.edge)
		if !c.ok {
			if got != 0 {
				t.Errorf("%d Below(%d) tells %d", c.n, c.edge, got)
			}
			wantFailed(t, "Below", s)
		} else if uint64(got) != c.n || !s.Ok() || s.Left() != 1 {
			t.Errorf("%d Below(%d) tells %d, ok %v, left %d", c.n, c.edge, got, s.Ok(), s.Left())
		}
	}
}

func TestText(t *testing.T) { // P1.2
	for _, c := range []struct {
		b    []byte
		most int
		want string
		left int // -1: it fails
	}{
		{[]byte{0}, 0, "", 0},
		{[]byte{0, 9}, 0, "", 1},
		{[]byte{0}, -1, "", -1},
		{[]byte{0}, math.MinInt, "", -1},
		{[]byte{0}, math.MaxInt, "", 0},
		{[]byte{2, 'a', 'b'}, 2, "ab", 0},
		{[]byte{2, 'a', 'b', 'c'}, 2, "ab", 1},
		{[]byte{2, 'a', 'b'}, math.MaxInt, "ab", 0},
		{[]byte{2, 'a', 'b'}, math.MaxInt - 1, "ab", 0},
		{[]byte{2, 'a', 'b'}, 1, "", -1},
		{[]byte{2, 'a', 'b'}, 0, "", -1},
		{[]byte{2, 'a', 'b'}, -3, "", -1},
		{[]byte{2, 'a'}, 2, "", -1},
		{[]byte{2}, 2, "", -1},
		{[]byte{0x82, 0, 'a', 'b'}, 2, "", -1},
		{[]byte{2, 0xff, 0}, 40, "\xff\x00", 0},
		{vint.Num(math.MaxInt), math.MaxInt, "", -1},
		{vint.Num(math.MaxInt + 1), math.MaxInt, "", -1},
		{vint.Num(math.MaxUint64), math.MaxInt, "", -1},
		{vint.Num(math.MaxUint64), -1, "", -1},
	} {
		s := vint.From(c.b)
		if got := s.Text(c.most); got != c.want {
			t.Errorf("Text(%d) of % x tells %q, want %q", c.most, c.b, got, c.want)
		}
		if c.left < 0 {
			wantFailed(t, "Text", s)
		} else if !s.Ok() || s.Left() != c.left {
			t.Errorf("Text(%d) of % x: ok %v, left %d", c.most, c.b, s.Ok(), s.Left())
		}
	}
}

func TestTake(t *testing.T) { // P1.2
	for _, c := range []struct {
		size, n int
		ok      bool
	}{
		{0, 0, true}, {0, 1, false}, {0, -1, false},
		{3, 0, true}, {3, 1, true}, {3, 3, true}, {3, 4, false}, {3, -1, false},
		{3, math.MaxInt, false}, {3, math.MinInt, false},
	} {
		b := []byte{4, 5, 6}[:c.size]
		s := vint.From(b)
		got := s.Take(c.n)
		if !c.ok {
			if len(got) != 0 {
				t.Errorf("Take(%d) of % x tells % x", c.n, b, got)
			}
			wantFailed(t, "Take", s)
		} else if !bytes.Equal(got, b[:c.n]) || !s.Ok() || s.Left() != c.size-c.n {
			t.Errorf("Take(%d) of % x tells % x, ok %v, left %d", c.n, b, got, s.Ok(), s.Left())
		}
	}
}

func TestFailStays(t *testing.T) { // P1.2
	s := vint.From([]byte{1, 2, 3})
	s.Fail()
	wantFailed(t, "Fail", s)
	s = vint.From([]byte{1, 2, 3})
	s.Num()
	s.Take(5)
	wantFailed(t, "Take of too many", s)
	s = vint.From(nil)
	if !s.Ok() || !s.End() || s.Left() != 0 {
		t.Error("nothing is no failure: it is the end")
	}
	s.Fail()
	wantFailed(t, "Fail at the end", s)
	wantFailed(t, "nil", nil)
}

func TestSourceKeepsNoBytes(t *testing.T) { // rule 3
	b := []byte{1, 2, 'a', 'b', 7, 8}
	was := bytes.Clone(b)
	s, other := vint.From(b), vint.From(b)
	s.Num()
	text, taken := s.Text(2), s.Take(1)
	taken[0] = 99
	taken = append(taken, 98)
	if !bytes.Equal(b, was) || len(taken) != 2 {
		t.Fatalf("what was handed in is % x", b)
	}
	clear(b)
	if text != "ab" || s.Num() != 8 || !s.End() {
		t.Error("what is read turned with what was handed in, or was taken")
	}
	if got := other.Take(6); !bytes.Equal(got, was) {
		t.Errorf("another source of the same bytes tells % x", got)
	}
}

func TestReadAgain(t *testing.T) { // P1.3
	for _, n := range edges() {
		if s := vint.From(vint.Num(n)); s.Num() != n || !s.End() {
			t.Errorf("Num(%d) is not read again", n)
		}
		for _, i := range []int64{int64(n), -int64(n)} {
			if s := vint.From(vint.Int(i)); s.Int() != i || !s.End() {
				t.Errorf("Int(%d) is not read again", i)
			}
		}
	}
	for _, x := range texts() {
		if s := vint.From(vint.Text(x)); s.Text(len(x)) != x || !s.End() {
			t.Errorf("Text of %d bytes is not read again", len(x))
		}
	}
}

// wantOneForm is whether what is read of b, if something is, is what was written so.
func wantOneForm(t *testing.T, b []byte) {
	t.Helper()
	s := vint.From(b)
	if n := s.Num(); s.Ok() && !bytes.Equal(vint.Num(n), b[:len(b)-s.Left()]) {
		t.Fatalf("% x is read as %d", b, n)
	}
	s = vint.From(b)
	if n := s.Int(); s.Ok() && !bytes.Equal(vint.Int(n), b[:len(b)-s.Left()]) {
		t.Fatalf("% x is read as %d", b, n)
	}
	s = vint.From(b)
	if x := s.Text(len(b)); s.Ok() && !bytes.Equal(vint.Text(x), b[:len(b)-s.Left()]) {
		t.Fatalf("% x is read as %q", b, x)
	}
}

func TestOneFormAlone(t *testing.T) { // P1.3
	for i := range 1 << 16 {
		wantOneForm(t, []byte{byte(i), byte(i >> 8)})
	}
	kinds := []byte{0, 1, 2, 0x7f, 0x80, 0x81, 0xff}
	for size := range 12 {
		for _, low := range kinds {
			for _, mid := range kinds {
				for _, last := range kinds {
					b := bytes.Repeat([]byte{mid}, size)
					wantOneForm(t, append(append([]byte{low}, b...), last))
					wantOneForm(t, append(append([]byte{low}, b...), last, 0))
				}
			}
		}
	}
}
