package cell_test

import (
	"bytes"
	"encoding/binary"
	"errors"
	"math"
	"slices"
	"strings"
	"testing"

	"firkin/api"
	"firkin/cell"
	"firkin/vint"
)

// types is those that there are.
func types() []int {
	return []int{api.TyInt, api.TyBool, api.TyText}
}

// noTypes is numbers that are none.
func noTypes() []int {
	return []int{0, -1, 4, 5, 8, 9, -2, -3, 257, 258, 259, math.MaxInt32, 1<<32 + 1, math.MaxInt, math.MinInt, math.MinInt + 1}
}

// numbers is some, rising, with those at the edges of 64 bits and of a byte.
func numbers() []int64 {
	return []int64{math.MinInt64, math.MinInt64 + 1, math.MinInt32, -65, -64, -5, -2, -1, 0, 1, 2, 3, 63, 64, 255, 256, 300, math.MaxInt32, math.MaxInt32 + 1, math.MaxInt64 - 1, math.MaxInt64}
}

// texts is some, rising byte by byte, with those of as many bytes as a cell's may have, of one fewer, and of more.
func texts() []string {
	x := func(n int) string { return strings.Repeat("x", n) }
	return []string{"", "\x00", "\x00\x00", "\x00a", "10", "9", "A", "Z", "a", "a\x00", "a!", "aa", "ab", "b",
		x(api.MaxText - 1), x(api.MaxText), x(api.MaxText + 1), x(127), x(128), x(1000), "\x7f", "\x80", "\xc3", "é", strings.Repeat("é", 20), strings.Repeat("é", 21), "\xff", "\xff\x00", "\xff\xff"}
}

// cells is all of null or not, and of these numbers and texts; each is ahead of those behind it.
func cells() []api.Cell {
	var l []api.Cell
	for _, null := range []bool{true, false} {
		for _, n := range numbers() {
			for _, t := range texts() {
				l = append(l, api.Cell{Null: null, I: n, S: t})
			}
		}
	}
	return l
}

// mays is the cells that may be of that type and are not null: those of numbers() and texts().
func mays(ty int) []api.Cell {
	var l []api.Cell
	switch ty {
	case api.TyInt:
		for _, n := range numbers() {
			l = append(l, api.Cell{I: n})
		}
	case api.TyBool:
		l = []api.Cell{{I: 0}, {I: 1}}
	case api.TyText:
		for _, t := range texts() {
			if len(t) < 41 {
				l = append(l, api.Cell{S: t})
			}
		}
	}
	return l
}

// byRule is c's bytes as the chapter says them.
func byRule(ty int, c api.Cell) []byte {
	b := []byte{1}
	switch {
	case c.Null:
		b = []byte{0}
	case ty == 1 || ty == 2:
		b = binary.AppendVarint(b, c.I)
	case ty == 3:
		b = append(binary.AppendUvarint(b, uint64(len(c.S))), c.S...)
	}
	return b
}

// readByRule is the cell of that type that b begins with, how many bytes it has, and whether there is one.
func readByRule(ty int, b []byte) (api.Cell, int, bool) {
	if ty < 1 || ty > 3 || len(b) == 0 || b[0] > 1 {
		return api.Cell{}, 0, false
	}
	if b[0] == 0 {
		return api.Cell{Null: true}, 1, true
	}
	if ty == 3 {
		if len(b) < 2 || b[1] > 40 || len(b) < 2+int(b[1]) { // so few are one byte's number
			return api.Cell{}, 0, false
		}
		return api.Cell{S: string(b[2:][:b[1]])}, 2 + int(b[1]), true
	}
	n, size := binary.Varint(b[1:])
	if size <= 0 || size > 1 && b[size] == 0 || ty == 2 && n != 0 && n != 1 {
		return api.Cell{}, 0, false
	}
	return api.Cell{I: n}, 1 + size, true
}

func TestMayKnown(t *testing.T) { // P9.1
	long := strings.Repeat("x", api.MaxText)
	for _, c := range []struct {
		ty   int
		c    api.Cell
		want bool // whether cells may be null or not
	}{
		{api.TyInt, api.Cell{}, true},
		{api.TyInt, api.Cell{I: math.MinInt64}, true},
		{api.TyInt, api.Cell{I: math.MaxInt64}, true},
		{api.TyInt, api.Cell{S: "1"}, false},
		{api.TyInt, api.Cell{I: 1, S: "\x00"}, false},
		{api.TyBool, api.Cell{}, true},
		{api.TyBool, api.Cell{I: 1}, true},
		{api.TyBool, api.Cell{I: 2}, false},
		{api.TyBool, api.Cell{I: -1}, false},
		{api.TyBool, api.Cell{I: 1 << 32}, false},
		{api.TyBool, api.Cell{I: 1<<32 + 1}, false},
		{api.TyBool, api.Cell{I: 256}, false},
		{api.TyBool, api.Cell{I: math.MinInt64}, false},
		{api.TyBool, api.Cell{I: 1, S: "a"}, false},
		{api.TyBool, api.Cell{S: "true"}, false},
		{api.TyText, api.Cell{}, true},
		{api.TyText, api.Cell{S: "a"}, true},
		{api.TyText, api.Cell{S: "\xff\x00\x80"}, true},
		{api.TyText, api.Cell{S: long}, true},
		{api.TyText, api.Cell{S: strings.Repeat("\xff", 40)}, true},
		{api.TyText, api.Cell{S: strings.Repeat("é", 20)}, true},
		{api.TyText, api.Cell{S: strings.Repeat("é", 20) + "e"}, false},
		{api.TyText, api.Cell{S: strings.Repeat("é", 40)}, false},
		{api.TyText, api.Cell{S: long + "x"}, false},
		{api.TyText, api.Cell{S: strings.Repeat("x", 1<<20)}, false},
		{api.TyText, api.Cell{I: 1}, false},
		{api.TyText, api.Cell{I: 1, S: "a"}, false},
		{api.TyText, api.Cell{I: -1, S: "a"}, false},
	} {
		for _, null := range []bool{false, true} {
			if got := cell.May(c.ty, null, c.c); got != c.want {
				t.Errorf("May(%d, %v, %+v) = %v", c.ty, null, c.c, got)
			}
		}
	}
}

func TestMayBeNull(t *testing.T) { // P9.1
	for _, ty := range types() {
		if !cell.May(ty, true, api.Cell{Null: true}) || cell.May(ty, false, api.Cell{Null: true}) {
			t.Errorf("a null cell of type %d may not be, or may where none may be null", ty)
		}
		for _, c := range []api.Cell{{Null: true, I: 1}, {Null: true, I: -1}, {Null: true, S: "a"}, {Null: true, S: "\x00"}, {Null: true, I: 1, S: "a"}} {
			if cell.May(ty, true, c) || cell.May(ty, false, c) {
				t.Errorf("%+v may be of type %d: all else is the zero value", c, ty)
			}
		}
	}
}

func TestMayByRule(t *testing.T) { // P9.1
	for _, ty := range types() {
		for _, null := range []bool{false, true} {
			may := mays(ty)
			if null {
				may = append(may, api.Cell{Null: true})
			}
			for _, c := range cells() {
				if got, want := cell.May(ty, null, c), slices.Contains(may, c); got != want {
					t.Fatalf("May(%d, %v, %+v) = %v", ty, null, c, got)
				}
			}
		}
	}
}

func TestNoneMayBeOfAnotherType(t *testing.T) { // P9.1
	for _, ty := range noTypes() {
		for _, c := range cells() {
			if cell.May(ty, true, c) || cell.May(ty, false, c) {
				t.Fatalf("%+v may be of type %d", c, ty)
			}
		}
	}
}

func TestOrderKnown(t *testing.T) { // P9.2
	null := api.Cell{Null: true}
	for _, c := range []struct{ a, b api.Cell }{ // a is ahead
		{null, api.Cell{I: -5}},
		{null, api.Cell{}},
		{null, api.Cell{I: math.MinInt64}},
		{null, api.Cell{S: "a"}},
		{api.Cell{Null: true, I: 9, S: "z"}, api.Cell{I: -9}},
		{null, api.Cell{Null: true, I: 1}},
		{api.Cell{Null: true, I: -1}, null},
		{null, api.Cell{Null: true, S: "a"}},
		{api.Cell{Null: true, I: 1, S: "z"}, api.Cell{Null: true, I: 2, S: "a"}},
		{api.Cell{I: -5}, api.Cell{I: 3}},
		{api.Cell{I: 9}, api.Cell{I: 10}},
		{api.Cell{I: math.MinInt64}, api.Cell{I: math.MaxInt64}},
		{api.Cell{I: -2}, api.Cell{I: math.MaxInt64}},
		{api.Cell{I: math.MinInt64}, api.Cell{I: 1}},
		{api.Cell{I: 1}, api.Cell{I: 1 << 32}},
		{api.Cell{I: 0}, api.Cell{I: 1}},
		{api.Cell{S: ""}, api.Cell{S: "a"}},
		{api.Cell{S: "10"}, api.Cell{S: "9"}},
		{api.Cell{S: "Z"}, api.Cell{S: "a"}},
		{api.Cell{S: "a"}, api.Cell{S: "a\x00"}},
		{api.Cell{S: "ab"}, api.Cell{S: "b"}},
		{api.Cell{S: "z"}, api.Cell{S: "\x80"}},
		{api.Cell{S: "\x80"}, api.Cell{S: "é"}},
		{api.Cell{S: "é"}, api.Cell{S: "\xff"}},
		{api.Cell{I: 1, S: "z"}, api.Cell{I: 2, S: "a"}},
		{api.Cell{I: 1, S: "a"}, api.Cell{I: 1, S: "b"}},
	} {
		if got, back := cell.Order(c.a, c.b), cell.Order(c.b, c.a); got != -1 || back != 1 {
			t.Errorf("Order of %+v and %+v is %d, turned round %d", c.a, c.b, got, back)
		}
		if cell.Same(c.a, c.b) || cell.Same(c.b, c.a) || !cell.Same(c.a, c.a) || !cell.Same(c.b, c.b) {
			t.Errorf("Same is not right of %+v and %+v", c.a, c.b)
		}
	}
}

func TestOrderIsOfPlaces(t *testing.T) { // P9.2, P9.5: cells() rises, so that any three are ordered as their places are
	l := cells()
	for i, a := range l {
		for j, b := range l {
			want := 0
			if i < j {
				want = -1
			} else if i > j {
				want = 1
			}
			if got := cell.Order(a, b); got != want {
				t.Fatalf("Order(%+v, %+v) = %d, want %d", a, b, got, want)
			}
			if got := cell.Same(a, b); got != (i == j) {
				t.Fatalf("Same(%+v, %+v) = %v", a, b, got)
			}
		}
	}
}

func TestOrderIsAnOrder(t *testing.T) { // P9.5
	var l []api.Cell
	for _, null := range []bool{false, true} {
		for _, n := range []int64{1, math.MaxInt64, -1, math.MinInt64, 0} {
			for _, s := range []string{"b", "", "\xff", "a"} {
				l = append(l, api.Cell{Null: null, I: n, S: s})
			}
		}
	}
	for _, a := range l {
		for _, b := range l {
			ab := cell.Order(a, b)
			if ab != -cell.Order(b, a) || (ab == 0) != cell.Same(a, b) || ab < -1 || ab > 1 {
				t.Fatalf("Order of %+v and %+v is %d", a, b, ab)
			}
			for _, c := range l {
				if ab < 0 && cell.Order(b, c) < 0 && cell.Order(a, c) != -1 {
					t.Fatalf("%+v is ahead of %+v, and that one of %+v", a, b, c)
				}
			}
		}
	}
}

func TestSame(t *testing.T) { // P9.2: texts are the same by their bytes, wherever they are kept
	a := api.Cell{I: 3, S: string([]byte("ab"))}
	b := api.Cell{I: 3, S: strings.ToLower("AB")}
	if !cell.Same(a, b) || cell.Order(a, b) != 0 {
		t.Error("the same bytes are not the same text")
	}
	for _, c := range []api.Cell{{I: 3}, {I: 4, S: "ab"}, {I: 3, S: "aB"}, {Null: true, I: 3, S: "ab"}, {S: "ab"}, {}, {Null: true}} {
		if cell.Same(a, c) || cell.Same(c, a) {
			t.Errorf("%+v is the same as %+v", c, a)
		}
	}
	if !cell.Same(api.Cell{}, api.Cell{}) || !cell.Same(api.Cell{Null: true}, api.Cell{Null: true}) {
		t.Error("two of no value, or two null, are not the same")
	}
}

func TestToKnown(t *testing.T) { // P9.3
	for _, c := range []struct {
		ty   int
		c    api.Cell
		want any
	}{
		{api.TyInt, api.Cell{}, int64(0)},
		{api.TyInt, api.Cell{I: -5}, int64(-5)},
		{api.TyInt, api.Cell{I: math.MinInt64}, int64(math.MinInt64)},
		{api.TyInt, api.Cell{I: 7, S: "a"}, int64(7)},
		{api.TyBool, api.Cell{}, false},
		{api.TyBool, api.Cell{I: 1}, true},
		{api.TyBool, api.Cell{I: 2}, true},
		{api.TyBool, api.Cell{I: -1}, true},
		{api.TyBool, api.Cell{I: 1 << 32}, true},
		{api.TyBool, api.Cell{I: math.MinInt64}, true},
		{api.TyBool, api.Cell{S: "true"}, false},
		{api.TyText, api.Cell{}, ""},
		{api.TyText, api.Cell{S: "a"}, "a"},
		{api.TyText, api.Cell{S: "\xff\x00"}, "\xff\x00"},
		{api.TyText, api.Cell{I: 7, S: "a"}, "a"},
		{api.TyText, api.Cell{S: strings.Repeat("x", 50)}, strings.Repeat("x", 50)},
	} {
		if got := cell.To(c.ty, c.c); got != c.want {
			t.Errorf("To(%d, %+v) = %#v, want %#v", c.ty, c.c, got, c.want)
		}
	}
}

func TestToByRule(t *testing.T) { // P9.3
	for _, c := range cells() {
		wants := map[int]any{api.TyInt: c.I, api.TyBool: c.I != 0, api.TyText: c.S}
		for _, ty := range append(types(), noTypes()...) {
			want := wants[ty] // nil of a type that there is not
			if c.Null {
				want = nil
			}
			if got := cell.To(ty, c); got != want {
				t.Fatalf("To(%d, %+v) = %#v, want %#v", ty, c, got, want)
			}
		}
	}
}

type (
	ownInt  int64
	ownBool bool
	ownText string
)

// others is values that are no cell's.
func others() []any {
	n, is, s, c := int64(1), true, "a", api.Cell{I: 1}
	var none *int64
	return []any{1, int32(1), int16(1), int8(1), uint64(1), uint(1), byte(1), 'a', uintptr(1), 1.0, float32(1), 1i, math.NaN(),
		ownInt(1), ownBool(true), ownText("a"), &n, &is, &s, none, (*string)(nil), c, &c, struct{}{}, [1]int64{1}, [0]bool{},
		[]byte("a"), []rune("a"), []int64{1}, []string(nil), []any{nil}, map[string]int64{}, map[int]int(nil),
		func() {}, (func())(nil), make(chan int), (chan int)(nil), errors.New("a"), api.OK, api.ErrNone}
}

func TestFromKnown(t *testing.T) { // P9.3
	for _, c := range []struct {
		v    any
		want api.Cell
		ty   int
	}{
		{nil, api.Cell{Null: true}, 0},
		{error(nil), api.Cell{Null: true}, 0},
		{int64(0), api.Cell{}, api.TyInt},
		{int64(-5), api.Cell{I: -5}, api.TyInt},
		{int64(math.MinInt64), api.Cell{I: math.MinInt64}, api.TyInt},
		{int64(math.MaxInt64), api.Cell{I: math.MaxInt64}, api.TyInt},
		{false, api.Cell{}, api.TyBool},
		{true, api.Cell{I: 1}, api.TyBool},
		{"", api.Cell{}, api.TyText},
		{"a", api.Cell{S: "a"}, api.TyText},
		{"\xff\x00", api.Cell{S: "\xff\x00"}, api.TyText},
		{strings.Repeat("x", 50), api.Cell{S: strings.Repeat("x", 50)}, api.TyText},
	} {
		if got, ty := cell.From(c.v); got != c.want || ty != c.ty {
			t.Errorf("From(%#v) = %+v, %d", c.v, got, ty)
		}
	}
}

func TestFromOthers(t *testing.T) { // P9.3
	for _, v := range others() {
		if got, ty := cell.From(v); got != (api.Cell{}) || ty != -1 {
			t.Errorf("From(%T %v) = %+v, %d", v, v, got, ty)
		}
	}
}

func TestToAndFrom(t *testing.T) { // P9.3: what may be comes back
	for _, ty := range types() {
		for _, c := range mays(ty) {
			if got, is := cell.From(cell.To(ty, c)); got != c || is != ty {
				t.Errorf("From(To(%d, %+v)) = %+v, %d", ty, c, got, is)
			}
		}
		if got, is := cell.From(cell.To(ty, api.Cell{Null: true})); !got.Null || is != 0 {
			t.Errorf("null of type %d comes back as %+v, %d", ty, got, is)
		}
	}
}

func TestWhatAnyIs(t *testing.T) { // P9.3
	for _, n := range numbers() {
		if got := cell.Int(n); got != n {
			t.Errorf("Int(%d) = %d", n, got)
		}
		if got := cell.Int(cell.To(api.TyInt, api.Cell{I: n})); got != n {
			t.Errorf("Int of what %d is = %d", n, got)
		}
		if got := cell.Bool(cell.To(api.TyBool, api.Cell{I: n})); got != (n != 0) {
			t.Errorf("Bool of what %d is = %v", n, got)
		}
	}
	for _, s := range texts() {
		if got := cell.Text(s); got != s {
			t.Errorf("Text(%q) = %q", s, got)
		}
		if got := cell.Text(cell.To(api.TyText, api.Cell{S: s})); got != s {
			t.Errorf("Text of what %q is = %q", s, got)
		}
	}
	if !cell.Bool(true) || cell.Bool(false) {
		t.Error("Bool is another truth")
	}
}

// panics is whether f does.
func panics(f func()) (did bool) {
	defer func() { did = recover() != nil }()
	f()
	return false
}

func TestWhatAnyIsNot(t *testing.T) { // P9.3: they panic
	all := append(others(), nil, int64(0), int64(5), false, true, "", "a", "5", "true")
	for _, v := range all {
		_, isInt := v.(int64)
		_, isBool := v.(bool)
		_, isText := v.(string)
		if panics(func() { cell.Int(v) }) == isInt {
			t.Errorf("Int of %T: panics, or not: %v", v, !isInt)
		}
		if panics(func() { cell.Bool(v) }) == isBool {
			t.Errorf("Bool of %T: panics, or not: %v", v, !isBool)
		}
		if panics(func() { cell.Text(v) }) == isText {
			t.Errorf("Text of %T: panics, or not: %v", v, !isText)
		}
	}
}

func TestPutKnown(t *testing.T) { // P9.4
	for _, c := range []struct {
		ty   int
		c    api.Cell
		want []byte
	}{
		{api.TyInt, api.Cell{Null: true}, []byte{0}},
		{api.TyBool, api.Cell{Null: true}, []byte{0}},
		{api.TyText, api.Cell{Null: true}, []byte{0}},
		{0, api.Cell{Null: true}, []byte{0}},
		{-1, api.Cell{Null: true, I: 5, S: "a"}, []byte{0}},
		{api.TyInt, api.Cell{}, []byte{1, 0}},
		{api.TyInt, api.Cell{I: -5}, []byte{1, 9}},
		{api.TyInt, api.Cell{I: 300}, []byte{1, 0xd8, 4}},
		{api.TyInt, api.Cell{I: 5, S: "a"}, []byte{1, 10}},
		{api.TyInt, api.Cell{I: math.MinInt64}, []byte{1, 0xff, 0xff, 0xff, 0xff, 0xff, 0xff, 0xff, 0xff, 0xff, 1}},
		{api.TyBool, api.Cell{}, []byte{1, 0}},
		{api.TyBool, api.Cell{I: 1}, []byte{1, 2}},
		{api.TyBool, api.Cell{I: 2}, []byte{1, 4}},
		{api.TyBool, api.Cell{I: -1}, []byte{1, 1}},
		{api.TyText, api.Cell{}, []byte{1, 0}},
		{api.TyText, api.Cell{S: "ab"}, []byte{1, 2, 'a', 'b'}},
		{api.TyText, api.Cell{I: 5, S: "\xff"}, []byte{1, 1, 0xff}},
		{api.TyText, api.Cell{S: strings.Repeat("x", 41)}, append([]byte{1, 41}, strings.Repeat("x", 41)...)},
		{0, api.Cell{}, []byte{1}},
		{4, api.Cell{I: 5, S: "a"}, []byte{1}},
	} {
		if got := cell.Put(c.ty, c.c); !bytes.Equal(got, c.want) {
			t.Errorf("Put(%d, %+v) = % x, want % x", c.ty, c.c, got, c.want)
		}
	}
}

func TestPutByRule(t *testing.T) { // P9.4
	for _, ty := range append(types(), noTypes()...) {
		for _, c := range cells() {
			if got, want := cell.Put(ty, c), byRule(ty, c); !bytes.Equal(got, want) {
				t.Fatalf("Put(%d, %+v) = % x, want % x", ty, c, got, want)
			}
		}
	}
}

// wantTaken is whether b begins with c, of that type and size, and what is behind it is left.
func wantTaken(t *testing.T, ty int, b []byte, c api.Cell, size int) {
	t.Helper()
	was := slices.Clone(b)
	s := vint.From(b)
	if got := cell.Take(s, ty); got != c || !s.Ok() || s.Left() != len(b)-size {
		t.Fatalf("Take of type %d of % x = %+v, ok %v, left %d, want %+v, left %d", ty, b, got, s.Ok(), s.Left(), c, len(b)-size)
	}
	if got := s.Take(s.Left()); !bytes.Equal(got, was[size:]) || !bytes.Equal(b, was) {
		t.Fatalf("Take of type %d of % x leaves % x", ty, was, got)
	}
}

// wantNone is whether nothing is taken of b, and the source fails.
func wantNone(t *testing.T, ty int, b []byte) {
	t.Helper()
	s := vint.From(b)
	for range 2 {
		if got := cell.Take(s, ty); got != (api.Cell{}) || s.Ok() || s.Left() != 0 {
			t.Fatalf("Take of type %d of % x = %+v, ok %v, left %d", ty, b, got, s.Ok(), s.Left())
		}
	}
}

// wantByRule is whether Take tells of b what the chapter says, and what is taken is just what is put.
func wantByRule(t *testing.T, ty int, b []byte) {
	t.Helper()
	c, size, ok := readByRule(ty, b)
	if !ok {
		wantNone(t, ty, b)
		return
	}
	wantTaken(t, ty, b, c, size)
	if got := cell.Put(ty, c); !bytes.Equal(got, b[:size]) || !cell.May(ty, true, c) {
		t.Fatalf("of % x, type %d, %+v is taken, which is put as % x", b, ty, c, got)
	}
}

func TestPutIsTaken(t *testing.T) { // P9.4, P9.5
	for _, ty := range types() {
		for _, c := range append(mays(ty), api.Cell{Null: true}) {
			b := cell.Put(ty, c)
			for _, behind := range [][]byte{nil, {0}, {1}, {0x80}, {1, 2, 3}, b} {
				wantTaken(t, ty, append(slices.Clone(b), behind...), c, len(b))
			}
			for size := range len(b) {
				wantNone(t, ty, b[:size])
			}
		}
	}
}

func TestManyAreTaken(t *testing.T) { // P9.4, P9.5: one behind the other, of all types
	var b []byte
	for _, ty := range types() {
		for _, c := range append(mays(ty), api.Cell{Null: true}) {
			b = append(b, cell.Put(ty, c)...)
		}
	}
	s := vint.From(b)
	for _, ty := range types() {
		for _, c := range append(mays(ty), api.Cell{Null: true}) {
			if got := cell.Take(s, ty); got != c || !s.Ok() {
				t.Fatalf("%+v is taken as %+v, ok %v", c, got, s.Ok())
			}
		}
	}
	if !s.End() {
		t.Errorf("%d bytes are left", s.Left())
	}
}

func TestTakeWhatMayNotBe(t *testing.T) { // P9.4: what may be of no null or other cell
	for _, ty := range types() {
		for _, c := range cells() {
			b := cell.Put(ty, c)
			if _, _, ok := readByRule(ty, b); !ok {
				wantNone(t, ty, append(b, 0, 0, 0))
			} else {
				wantByRule(t, ty, append(b, 0, 0, 0))
			}
		}
	}
	long := strings.Repeat("x", 41)
	for _, c := range []struct {
		ty int
		b  []byte
	}{
		{api.TyBool, []byte{1, 4}},
		{api.TyBool, []byte{1, 1}},
		{api.TyBool, []byte{1, 3}},
		{api.TyBool, []byte{1, 0x80, 1}},
		{api.TyBool, []byte{1, 0x82, 0x80, 0x80, 0x80, 0x20}}, // 2^32 and 1
		{api.TyText, append([]byte{1, 41}, long...)},
		{api.TyText, []byte{1, 0x80, 0x80, 0x80, 0x80, 0x10}},
		{api.TyText, append([]byte{1}, bytes.Repeat([]byte{0xff}, 10)...)},
		{api.TyText, append(append([]byte{1}, bytes.Repeat([]byte{0xff}, 9)...), 1)},
		{api.TyText, []byte{1, 0x81, 0, 'a'}},
		{api.TyInt, []byte{1, 0x80, 0}},
		{api.TyInt, append([]byte{1}, bytes.Repeat([]byte{0xff}, 11)...)},
		{api.TyInt, append(append([]byte{1}, bytes.Repeat([]byte{0xff}, 9)...), 2)},
	} {
		wantNone(t, c.ty, c.b)
		wantNone(t, c.ty, append(c.b, 0))
	}
}

func TestTakeOfNoType(t *testing.T) { // P9.4: none may be of another type, null or not
	for _, ty := range noTypes() {
		for _, b := range [][]byte{nil, {0}, {1}, {1, 0}, {1, 2}, {0, 0}, {1, 1, 'a'}, {2}} {
			wantNone(t, ty, b)
		}
		for _, c := range cells() {
			wantNone(t, ty, cell.Put(ty, c))
		}
	}
}

func TestTheByteAhead(t *testing.T) { // P9.4: 0 or 1, and that alone
	for _, ty := range append(types(), noTypes()...) {
		for i := range 256 {
			wantByRule(t, ty, []byte{byte(i)})
			wantByRule(t, ty, []byte{byte(i), 0})
			wantByRule(t, ty, []byte{byte(i), 0, 0, 0})
			wantByRule(t, ty, []byte{byte(i), 2, 'a', 'b', 'c'})
		}
		wantNone(t, ty, []byte{0x81, 0, 0})
		wantNone(t, ty, []byte{0x80, 0, 0})
		wantNone(t, ty, []byte{0x80, 1, 0})
		wantNone(t, ty, []byte{0x81, 2, 0})
	}
}

func TestTakeOfShortBytes(t *testing.T) { // P9.4, P9.5: no other bytes are the same cell's
	for _, ty := range append(types(), 0, 4) {
		wantByRule(t, ty, nil)
		for i := range 1 << 16 {
			wantByRule(t, ty, []byte{byte(i), byte(i >> 8)})
			wantByRule(t, ty, []byte{1, byte(i), byte(i >> 8)})
			wantByRule(t, ty, []byte{1, 0xff, byte(i), byte(i >> 8), 'a', 'b', 'c'})
		}
		for size := range 45 {
			for _, first := range []byte{0, 1, 2, 38, 39, 40, 41, 42, 0x7f, 0x80, 0xff} {
				wantByRule(t, ty, append([]byte{1, first}, bytes.Repeat([]byte{'y'}, size)...))
				wantByRule(t, ty, append([]byte{1, first}, bytes.Repeat([]byte{0xff}, size)...))
			}
		}
	}
}

func TestTakeOfASourceThatFailed(t *testing.T) { // P9.4: nothing is taken of it, not even a null
	for _, ty := range append(types(), noTypes()...) {
		s := vint.From([]byte{0, 0, 1, 2})
		s.Fail()
		if got := cell.Take(s, ty); got != (api.Cell{}) || s.Ok() {
			t.Errorf("Take of type %d of one that failed = %+v", ty, got)
		}
		if got := cell.Take(nil, ty); got != (api.Cell{}) {
			t.Errorf("Take of type %d of nil = %+v", ty, got)
		}
		wantNone(t, ty, nil)
	}
}

func TestNothingIsShared(t *testing.T) { // rules 3 and 4
	for _, ty := range append(types(), 0) {
		for _, c := range []api.Cell{{Null: true}, {I: 1}, {S: "ab"}} {
			b, other := cell.Put(ty, c), cell.Put(ty, c)
			clear(append(b[:len(b):cap(b)], 9)[:cap(b)])
			if !bytes.Equal(other, byRule(ty, c)) || !bytes.Equal(cell.Put(ty, c), other) {
				t.Fatalf("two Puts of %+v share memory", c)
			}
		}
	}
	b := []byte{1, 2, 'a', 'b'}
	s := vint.From(b)
	c := cell.Take(s, api.TyText)
	clear(b)
	if c.S != "ab" {
		t.Error("what was taken turned with what was handed in")
	}
}
