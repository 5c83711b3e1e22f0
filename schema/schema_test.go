package schema_test

import (
	"bytes"
	"encoding/binary"
	"math"
	"regexp"
	"slices"
	"strconv"
	"strings"
	"testing"

	"firkin/api"
	"firkin/cell"
	"firkin/schema"
	"firkin/vint"
)

var null = api.Cell{Null: true}

// words is the words of queries.
func words() []string {
	return strings.Fields("and or not is null like true false select from where group by all count has sum min max")
}

// types is those that there are.
func types() []int {
	return []int{api.TyInt, api.TyBool, api.TyText}
}

// noTypes is numbers that are none.
func noTypes() []int {
	return []int{0, -1, 4, 5, -2, -3, 257, 1<<32 + 1, 1<<62 + 1, math.MaxInt, math.MinInt, math.MinInt + 1}
}

// col is a column whose cells are not null.
func col(name string, ty int) api.Col { return api.Col{Name: name, Type: ty} }

// open is a column whose cells may be null.
func open(name string, ty int) api.Col { return api.Col{Name: name, Type: ty, Null: true} }

// n is the cell of a number or a truth.
func n(i int64) api.Cell { return api.Cell{I: i} }

// s is the cell of a text.
func s(t string) api.Cell { return api.Cell{S: t} }

// x is a text of so many bytes.
func x(size int) string { return strings.Repeat("x", size) }

// many is so many columns, of unlike names, of all types, null or not.
func many(size int) []api.Col {
	l := make([]api.Col, size)
	for i := range l {
		l[i] = api.Col{Name: "c" + strconv.Itoa(i), Type: 1 + i%3, Null: i%2 == 1}
	}
	return l
}

// with is l, and c in the place at.
func with(l []api.Col, at int, c api.Col) []api.Col {
	l = slices.Clone(l)
	l[at] = c
	return l
}

// shape is how names look, beside the words of queries.
var shape = regexp.MustCompile(`\A[a-z][a-z0-9_]{0,11}\z`)

// nameByRule is whether t is a name as the chapter says it.
func nameByRule(t string) bool {
	return shape.MatchString(t) && !slices.Contains(words(), t)
}

// checkByRule is what Check answers, column by column and pair by pair.
func checkByRule(l []api.Col) api.Errno {
	if len(l) == 0 {
		return api.ErrArg
	}
	for i, c := range l {
		if !nameByRule(c.Name) || c.Type < 1 || c.Type > 3 {
			return api.ErrArg
		}
		for _, other := range l[:i] {
			if other.Name == c.Name {
				return api.ErrArg
			}
		}
	}
	if len(l) > 6 {
		return api.ErrMany
	}
	return api.OK
}

// putByRule is l's bytes as the chapter says them.
func putByRule(l []api.Col) []byte {
	b := binary.AppendUvarint(nil, uint64(len(l)))
	for _, c := range l {
		b = binary.AppendUvarint(b, uint64(len(c.Name)))
		b = append(b, c.Name...)
		number := uint64(c.Type) + uint64(c.Type)
		if c.Null {
			number |= 1
		}
		b = binary.AppendUvarint(b, number)
	}
	return b
}

// numberByRule is the number that b begins with, what is behind it, and whether there is one in its one form.
func numberByRule(b []byte) (uint64, []byte, bool) {
	got, size := binary.Uvarint(b)
	if size <= 0 || size > 1 && b[size-1] == 0 {
		return 0, nil, false
	}
	return got, b[size:], true
}

// readByRule is the columns that b begins with, and what is behind them; nothing, if there are none such.
func readByRule(b []byte) ([]api.Col, []byte) {
	size, b, ok := numberByRule(b)
	if !ok || size > 1000 {
		return nil, nil
	}
	var l []api.Col
	for range size {
		var long, number uint64
		long, b, ok = numberByRule(b)
		if !ok || long > uint64(len(b)) {
			return nil, nil
		}
		name := string(b[:long])
		number, b, ok = numberByRule(b[long:])
		if !ok {
			return nil, nil
		}
		l = append(l, api.Col{Name: name, Type: int(number >> 1), Null: number&1 == 1})
	}
	if checkByRule(l) != api.OK {
		return nil, nil
	}
	return l, b
}

// good is some columns that a table may have.
func good() [][]api.Col {
	l := [][]api.Col{
		{col("a", api.TyInt), open("b", api.TyText)},
		{col("z_9", api.TyText), col("z_", api.TyText), col("z", api.TyText), open("a", api.TyBool)},
		{open(x(12), api.TyBool), col(x(11), api.TyInt)},
		{col("ands", api.TyInt), col("or_", api.TyInt), col("nul", api.TyInt), col("a1", api.TyInt), col("b_c", api.TyInt), col("max1", api.TyInt)},
	}
	for _, ty := range types() {
		l = append(l, []api.Col{col("a", ty)}, []api.Col{open("a", ty)})
	}
	for size := 1; size <= api.MaxCols; size++ {
		l = append(l, many(size))
	}
	return l
}

// bad is some columns that no table may have; no two of them have the same bytes.
func bad() [][]api.Col {
	l := [][]api.Col{nil, many(7), many(8), many(300)}
	for _, name := range append(words(), "", "A", "1a", "_a", x(13), "é") {
		l = append(l, []api.Col{col(name, api.TyInt)}, []api.Col{col("a", api.TyInt), open(name, api.TyText)})
	}
	for _, ty := range noTypes() {
		if ty > math.MaxInt/2 || ty < math.MinInt/2 {
			continue // twice that is no int, and may be as of another type
		}
		l = append(l, []api.Col{col("a", ty)}, []api.Col{col("b", api.TyInt), open("a", ty)})
	}
	return append(l, []api.Col{col("a", api.TyInt), col("a", api.TyInt)}, []api.Col{col("a", api.TyInt), col("b", api.TyInt), open("a", api.TyText)})
}

func TestNameKnown(t *testing.T) { // P12.1
	for _, c := range []struct {
		s    string
		want bool
	}{
		{"a_1", true}, {"1a", false}, {"and", false}, {"A", false},
		{"", false}, {"a", true}, {"z", true}, {"m", true}, {"`", false}, {"{", false},
		{"_", false}, {"_a", false}, {"a_", true}, {"a__", true}, {"0", false}, {"9", false}, {"9a", false},
		{"a0", true}, {"a9", true}, {"a/", false}, {"a:", false}, {"az", true}, {"a`", false}, {"a{", false},
		{"aA", false}, {"aZ", false}, {"Aa", false}, {"a b", false}, {" a", false}, {"a ", false}, {"a\n", false}, {"a\x00", false}, {"\x00", false},
		{"a-b", false}, {"a.b", false}, {"-a", false}, {"'a'", false}, {"a*", false}, {"*", false},
		{"é", false}, {"aé", false}, {"a\xe9", false}, {"\xff", false}, {"a\xff", false}, {"a\x80", false}, {"a\ufffd", false}, {"ａ", false}, {"aª", false},
		{"a١", false}, {"a²", false}, {"ſ", false}, {"ａbc", false}, {"a\u0161", false}, {"\u0161", false}, {"a\u0130", false}, {"a\U00010061", false},
		{x(11), true}, {x(12), true}, {x(13), false}, {x(1000), false}, {"a12345678901", true}, {"a123456789012", false},
		{"xxxxxxxxxxx_", true}, {"xxxxxxxxxxxX", false}, {"ééééééa", false}, {"aééééé", false},
		{"And", false}, {"AND", false}, {"an", true}, {"ands", true}, {"andor", true}, {"a_nd", true}, {"and_", true}, {"and1", true}, {"x_and", true},
		{"nil", true}, {"exists", true}, {"table", true}, {"create", true}, {"drop", true}, {"load", true}, {"delete", true}, {"scan", true}, {"list", true},
		{"gc", true}, {"int", true}, {"bool", true}, {"text", true}, {"avg", true}, {"in", true}, {"as", true}, {"order", true}, {"limit", true}, {"any", true}, {"counts", true}, {"maxi", true}, {"mi", true},
	} {
		if got := schema.Name(c.s); got != c.want {
			t.Errorf("Name(%q) = %v", c.s, got)
		}
	}
}

func TestNameOfWords(t *testing.T) { // P12.1: no word is one, each one with more or less to it is
	if len(words()) != 19 {
		t.Fatal("there are 19 words of queries")
	}
	for _, w := range words() {
		if schema.Name(w) {
			t.Errorf("Name(%q) = true", w)
		}
		for _, near := range []string{w + "_", w + "0", w + "a", "a" + w, w[:len(w)-1], w[1:], w + w} {
			if got := schema.Name(near); got != nameByRule(near) {
				t.Errorf("Name(%q) = %v", near, got)
			}
		}
		for _, near := range []string{" " + w, w + " ", strings.ToUpper(w), strings.ToUpper(w[:1]) + w[1:], "_" + w} {
			if schema.Name(near) {
				t.Errorf("Name(%q) = true", near)
			}
		}
	}
}

func TestNameOfAllBytes(t *testing.T) { // P12.1: each byte, and each rune of few bytes, in each place
	for i := range 0x3000 {
		part := string(rune(i))
		if i < 256 {
			part = string([]byte{byte(i)})
		}
		for size := range 13 {
			for _, name := range []string{x(size) + part, part + x(size), "a" + part + x(size), "a_" + x(size) + part + "9"} {
				if got := schema.Name(name); got != nameByRule(name) {
					t.Fatalf("Name(%q) = %v", name, got)
				}
			}
		}
	}
}

func TestNameOfAllShort(t *testing.T) { // P12.1: of up to four letters out of a few: many words are among them
	letters := "abdiklmnorsty_0A\xe9"
	var all func(name string)
	all = func(name string) {
		if got := schema.Name(name); got != nameByRule(name) {
			t.Fatalf("Name(%q) = %v", name, got)
		}
		if len(name) == 4 {
			return
		}
		for i := range len(letters) {
			all(name + letters[i:i+1])
		}
	}
	all("")
}

func TestCheckKnown(t *testing.T) { // P12.1
	for _, c := range []struct {
		l    []api.Col
		want api.Errno
	}{
		{nil, api.ErrArg},
		{[]api.Col{}, api.ErrArg},
		{[]api.Col{{}}, api.ErrArg},
		{[]api.Col{col("a", api.TyInt)}, api.OK},
		{[]api.Col{col("a", 0)}, api.ErrArg},
		{[]api.Col{col("a", 4)}, api.ErrArg},
		{[]api.Col{col("", api.TyInt)}, api.ErrArg},
		{[]api.Col{col("max", api.TyInt)}, api.ErrArg},
		{[]api.Col{col("a", api.TyInt), col("a", api.TyText)}, api.ErrArg},
		{[]api.Col{col("a", api.TyInt), col("b", api.TyInt), col("a", api.TyInt)}, api.ErrArg},
		{[]api.Col{col("b", api.TyInt), col("a", api.TyInt), open("a", api.TyInt)}, api.ErrArg},
		{[]api.Col{col("b", api.TyInt), col("a", api.TyInt)}, api.OK},
		{many(5), api.OK},
		{many(6), api.OK},
		{many(7), api.ErrMany},
		{many(8), api.ErrMany},
		{many(5000), api.ErrMany},
		{with(many(6), 5, col("c0", api.TyInt)), api.ErrArg},
		{with(many(6), 0, col("c5", api.TyInt)), api.ErrArg},
		{with(many(6), 5, col("c0_", api.TyInt)), api.OK},
	} {
		if got := schema.Check(c.l); got != c.want {
			t.Errorf("Check(%+v) = %v, want %v", c.l[:min(len(c.l), 9)], got, c.want)
		}
	}
}

func TestCheckFirstError(t *testing.T) { // P12.1: ErrArg is named ahead of ErrMany, wherever its cause stands
	for size := 1; size < 20; size++ {
		for at := range size {
			for _, c := range []api.Col{col("A", api.TyInt), col("", api.TyInt), open("sum", api.TyInt), col(x(13), api.TyInt), col("a", 0), col("a", 4), open("a", -1), {}} {
				if got := schema.Check(with(many(size), at, c)); got != api.ErrArg {
					t.Errorf("Check of %d columns, in the place %d of which is %+v, = %v", size, at, c, got)
				}
			}
			for other := range size {
				l := with(many(size), at, open("c"+strconv.Itoa(other), api.TyBool))
				want := api.OK
				if other != at {
					want = api.ErrArg
				} else if size > 6 {
					want = api.ErrMany
				}
				if got := schema.Check(l); got != want {
					t.Errorf("Check of %d columns, in the place %d of which is c%d, = %v", size, at, other, got)
				}
			}
		}
	}
}

func TestCheckByRule(t *testing.T) { // P12.1
	for _, l := range good() {
		if got := schema.Check(l); got != api.OK || checkByRule(l) != api.OK {
			t.Errorf("Check(%+v) = %v", l, got)
		}
		for at := range l {
			for _, ty := range append(types(), noTypes()...) {
				for _, name := range append(words(), "a", "b", "c0", "c1", "A", "", x(12), x(13)) {
					for _, is := range []bool{false, true} {
						turned := with(l, at, api.Col{Name: name, Type: ty, Null: is})
						if got, want := schema.Check(turned), checkByRule(turned); got != want {
							t.Errorf("Check(%+v) = %v, want %v", turned, got, want)
						}
					}
				}
			}
		}
	}
	for _, l := range bad() {
		if got, want := schema.Check(l), checkByRule(l); got != want || want == api.OK {
			t.Errorf("Check(%+v) = %v, want %v", l[:min(len(l), 9)], got, want)
		}
	}
}

func TestFind(t *testing.T) { // P12.2
	l := []api.Col{col("a", api.TyInt), col("b", api.TyText), open("a", api.TyBool), col("", 0), col("A", -1), col("b", api.TyInt)}
	for _, c := range []struct {
		l    []api.Col
		name string
		at   int
		ok   bool
	}{
		{l, "a", 0, true}, {l, "b", 1, true}, {l, "", 3, true}, {l, "A", 4, true},
		{l, "c", 0, false}, {l, "ab", 0, false}, {l, "a ", 0, false}, {l, "B", 0, false}, {l, "a\x00", 0, false},
		{nil, "a", 0, false}, {nil, "", 0, false}, {[]api.Col{}, "a", 0, false},
		{l[1:], "a", 1, true}, {l[1:], "b", 0, true}, {l[3:], "b", 2, true}, {l[:3], "", 0, false},
	} {
		if at, ok := schema.Find(c.l, c.name); at != c.at || ok != c.ok {
			t.Errorf("Find(%+v, %q) = %d, %v", c.l, c.name, at, ok)
		}
	}
	for _, l := range append(good(), many(300)) {
		for i, c := range l {
			if at, ok := schema.Find(l, c.Name); at != i || !ok {
				t.Errorf("Find(%+v, %q) = %d, %v", l, c.Name, at, ok)
			}
			if at, ok := schema.Find(l[:i], c.Name); at != 0 || ok {
				t.Errorf("Find(%+v, %q) = %d, %v", l[:i], c.Name, at, ok)
			}
		}
	}
}

func TestRowKnown(t *testing.T) { // P12.2
	l := []api.Col{col("a", api.TyInt), open("b", api.TyText), col("c", api.TyBool)}
	for _, c := range []struct {
		l    []api.Col
		row  []api.Cell
		want bool
	}{
		{l, []api.Cell{n(1), s("x"), n(1)}, true},
		{l, []api.Cell{n(1), null, n(0)}, true},
		{l, []api.Cell{n(math.MinInt64), s(""), n(0)}, true},
		{l, []api.Cell{{}, {}, {}}, true},
		{l, []api.Cell{null, s("x"), n(1)}, false},
		{l, []api.Cell{n(1), s("x"), null}, false},
		{l, []api.Cell{n(1), s("x"), n(2)}, false},
		{l, []api.Cell{n(1), s("x"), n(-1)}, false},
		{l, []api.Cell{s("x"), s("x"), n(1)}, false},
		{l, []api.Cell{n(1), n(1), n(1)}, false},
		{l, []api.Cell{n(1), s(x(40)), n(1)}, true},
		{l, []api.Cell{n(1), s(x(41)), n(1)}, false},
		{l, []api.Cell{n(1), {Null: true, S: "x"}, n(1)}, false},
		{l, []api.Cell{n(1), {Null: true, I: 1}, n(1)}, false},
		{l, []api.Cell{n(1), {I: 1, S: "x"}, n(1)}, false},
		{l, []api.Cell{n(1), s("x")}, false},
		{l, []api.Cell{n(1)}, false},
		{l, []api.Cell{n(1), s("x"), n(1), n(1)}, false},
		{l, []api.Cell{n(1), s("x"), n(1), null}, false},
		{l, []api.Cell{n(1), s("x"), n(1), {}}, false},
		{l, nil, false},
		{l, []api.Cell{}, false},
		{nil, nil, true},
		{[]api.Col{}, nil, true},
		{nil, []api.Cell{}, true},
		{nil, []api.Cell{{}}, false},
		{nil, []api.Cell{null}, false},
		{[]api.Col{{}}, []api.Cell{{}}, false},
		{[]api.Col{open("a", 0)}, []api.Cell{null}, false},
		{[]api.Col{open("a", 4)}, []api.Cell{null}, false},
		{[]api.Col{open("a", 4)}, []api.Cell{n(1)}, false},
		{[]api.Col{open("A", api.TyInt)}, []api.Cell{null}, true}, // a row is not asked whether the columns may be
		{many(8), []api.Cell{n(1), n(1), s("a"), null, n(1), null, n(5), null}, true},
	} {
		if got := schema.Row(c.l, c.row); got != c.want {
			t.Errorf("Row(%+v, %+v) = %v", c.l, c.row, got)
		}
	}
}

func TestRowByCells(t *testing.T) { // P12.2: in each place each cell that may be there, and no other
	cells := []api.Cell{{}, null, n(1), n(2), n(-1), n(math.MaxInt64), s("a"), s(x(40)), s(x(41)), {I: 1, S: "a"}, {Null: true, I: 1}, {Null: true, S: "a"}}
	for _, l := range good() {
		row := make([]api.Cell, len(l))
		for at := range l {
			for _, is := range []bool{false, true} {
				for _, ty := range append(types(), noTypes()...) {
					turned := with(l, at, api.Col{Name: l[at].Name, Type: ty, Null: is})
					for _, c := range cells {
						row[at] = c
						if got := schema.Row(turned, row); got != cell.May(ty, is, c) {
							t.Errorf("Row(%+v, %+v) = %v", turned, row, got)
						}
					}
				}
			}
			row[at] = api.Cell{}
		}
		if !schema.Row(l, row) || schema.Row(l, row[1:]) || schema.Row(l, append(row, api.Cell{})) {
			t.Errorf("of %+v there is a row too short or too long, or none", l)
		}
	}
}

func TestSame(t *testing.T) { // P12.2
	if !schema.Same(nil, []api.Col{}) || !schema.Same([]api.Col{}, nil) || !schema.Same(nil, nil) {
		t.Error("nil and no columns are not the same")
	}
	all := append(good(), bad()[1:]...)
	for i, a := range all {
		if !schema.Same(a, slices.Clone(a)) {
			t.Errorf("%+v is not the same as itself", a)
		}
		if schema.Same(a, nil) || schema.Same(nil, a) || schema.Same(a, a[:len(a)-1]) || schema.Same(a[:len(a)-1], a) {
			t.Errorf("%+v is the same as fewer", a)
		}
		for j, b := range all {
			if got, want := schema.Same(a, b), bytes.Equal(putByRule(a), putByRule(b)); got != want || i == j && !got {
				t.Errorf("Same(%+v, %+v) = %v", a, b, got)
			}
		}
		for at, c := range a {
			for _, other := range []api.Col{{Name: c.Name + "x", Type: c.Type, Null: c.Null}, {Name: c.Name, Type: c.Type + 1, Null: c.Null}, {Name: c.Name, Type: c.Type, Null: !c.Null}, {}} {
				if b := with(a, at, other); schema.Same(a, b) || schema.Same(b, a) {
					t.Errorf("%+v and %+v are the same", a, b)
				}
			}
		}
	}
	if schema.Same([]api.Col{col("a", api.TyInt)}, []api.Col{col("a", math.MinInt+api.TyInt)}) {
		t.Error("two types that have the same bytes are the same")
	}
	a, b := col("a", api.TyInt), col("b", api.TyInt)
	if schema.Same([]api.Col{a, b}, []api.Col{b, a}) {
		t.Error("the order does not matter")
	}
}

func TestPutKnown(t *testing.T) { // P12.2
	for _, c := range []struct {
		l    []api.Col
		want []byte
	}{
		{nil, []byte{0}},
		{[]api.Col{}, []byte{0}},
		{[]api.Col{col("a", api.TyInt)}, []byte{1, 1, 'a', 2}},
		{[]api.Col{open("a", api.TyInt)}, []byte{1, 1, 'a', 3}},
		{[]api.Col{col("ab", api.TyBool)}, []byte{1, 2, 'a', 'b', 4}},
		{[]api.Col{open("ab", api.TyBool)}, []byte{1, 2, 'a', 'b', 5}},
		{[]api.Col{col("a", api.TyText)}, []byte{1, 1, 'a', 6}},
		{[]api.Col{open("a", api.TyText)}, []byte{1, 1, 'a', 7}},
		{[]api.Col{col("a", api.TyInt), open("b", api.TyText)}, []byte{2, 1, 'a', 2, 1, 'b', 7}},
		{[]api.Col{{}}, []byte{1, 0, 0}},
		{[]api.Col{{Null: true}}, []byte{1, 0, 1}},
		{[]api.Col{open("A", 64)}, []byte{1, 1, 'A', 0x81, 1}},
		{[]api.Col{col("a", math.MaxInt)}, []byte{1, 1, 'a', 0xfe, 0xff, 0xff, 0xff, 0xff, 0xff, 0xff, 0xff, 0xff, 1}},
	} {
		if got := schema.Put(c.l); !bytes.Equal(got, c.want) {
			t.Errorf("Put(%+v) = % x, want % x", c.l, got, c.want)
		}
	}
	for _, l := range append(good(), bad()...) {
		if got, want := schema.Put(l), putByRule(l); !bytes.Equal(got, want) {
			t.Errorf("Put(%+v) = % x, want % x", l[:min(len(l), 9)], got, want)
		}
	}
}

// taken is that Take reads of b what the chapter says, and stands behind it, or fails.
func taken(t *testing.T, b []byte) {
	t.Helper()
	source := vint.From(b)
	got := schema.Take(source)
	want, rest := readByRule(b)
	if !slices.Equal(got, want) || source.Ok() != (len(want) > 0) || source.Left() != len(rest) {
		t.Fatalf("Take of % x = %+v, %v, %d left; want %+v", b[:min(len(b), 90)], got, source.Ok(), source.Left(), want)
	}
	if source.Ok() && !bytes.Equal(schema.Put(got), b[:len(b)-len(rest)]) {
		t.Fatalf("% x is taken as %+v, which is put as % x", b, got, schema.Put(got))
	}
}

func TestPutIsTaken(t *testing.T) { // P12.3
	for _, l := range good() {
		b := schema.Put(l)
		source := vint.From(slices.Concat(b, []byte{7, 9}))
		if got := schema.Take(source); !slices.Equal(got, l) || source.Left() != 2 || source.Num() != 7 {
			t.Errorf("Take of % x = %+v", b, got)
		}
		taken(t, b)
	}
	var all []byte
	for _, l := range good() {
		all = append(all, schema.Put(l)...)
	}
	source := vint.From(all)
	for _, l := range good() {
		if got := schema.Take(source); !slices.Equal(got, l) {
			t.Errorf("one behind the other, %+v comes back as %+v", l, got)
		}
	}
	if !source.End() {
		t.Error("something is left behind the last columns")
	}
}

func TestTakeOfBad(t *testing.T) { // P12.2: s fails, and there are none, if Check is not OK
	for _, l := range bad() {
		for _, more := range [][]byte{nil, {1, 1, 'a', 2}, bytes.Repeat([]byte{1, 'q', 2}, 300)} {
			b := append(schema.Put(l), more...)
			source := vint.From(b)
			if got := schema.Take(source); len(got) != 0 || source.Ok() || source.Left() != 0 {
				t.Errorf("Take of %+v put = %+v, %v", l[:min(len(l), 9)], got, source.Ok())
			}
		}
	}
}

func TestTakeKnown(t *testing.T) { // P12.2
	for _, b := range [][]byte{
		nil,
		{0},
		{0, 1, 'a', 2},
		{1},
		{1, 1},
		{1, 1, 'a'},
		{1, 1, 'a', 0},                  // a type that is none
		{1, 1, 'a', 1},                  // the same, null
		{1, 1, 'a', 8},                  // the same
		{1, 1, 'a', 9},                  // the same, null
		{1, 1, 'a', 0x82, 0},            // no number's one form
		{0x81, 0, 1, 'a', 2},            // the same
		{1, 0x81, 0, 'a', 2},            // the same
		{1, 0, 2},                       // an empty name
		{1, 2, 'a', 2},                  // a name that is cut, or a mark in it
		{1, 1, '1', 2},                  // no name
		{1, 2, 'b', 'y', 2},             // the same
		{2, 1, 'a', 2},                  // one is missing
		{2, 1, 'a', 2, 1, 'a', 2},       // two of one name
		{2, 1, 'a', 2, 1, 'a', 7},       // the same, not alike
		{2, 1, 'a', 2, 1, 'b'},          // the last one is cut
		append(vint.Num(1<<40), 1, 'a'), // more than there can be
		append(vint.Num(1<<63), 1, 'a'), // the same
		append(vint.Num(1<<32+1), 1, 'a', 2),
		append([]byte{1, 1, 'a'}, vint.Num(1<<32+2)...), // a number that goes round in few bits is none
		append([]byte{1, 1, 'a'}, vint.Num(1<<33+2)...),
		append([]byte{1, 1, 'a'}, vint.Num(1<<63+2)...),
		append([]byte{1, 1, 'a'}, vint.Num(math.MaxUint64)...),
		append(append([]byte{1}, vint.Text(x(13))...), 2),
		append(append([]byte{1}, vint.Num(1<<40)...), 'a', 2),
		slices.Concat([]byte{7}, bytes.Repeat([]byte{1, 'a', 2}, 7)),
	} {
		source := vint.From(b)
		if got := schema.Take(source); len(got) != 0 || source.Ok() || source.Left() != 0 {
			t.Errorf("Take of % x = %+v, %v", b, got, source.Ok())
		}
	}
}

func TestTakeOfAllShort(t *testing.T) { // P12.2, P12.3
	for a := range 256 {
		taken(t, []byte{byte(a)})
		for b := range 256 {
			taken(t, []byte{byte(a), byte(b)})
			taken(t, []byte{1, 1, byte(a), byte(b)})
			taken(t, []byte{1, 2, 'a', byte(a), byte(b)})
			taken(t, []byte{1, 2, byte(a), byte(b), 2})
			taken(t, []byte{byte(a), byte(b), 'a', 2, 1, 'b', 3})
			taken(t, []byte{1, 1, 'a', byte(a), byte(b)})
			taken(t, []byte{2, 1, 'a', byte(a), 1, 'b', byte(b)})
			taken(t, []byte{2, 1, byte(a), 2, 1, byte(b), 3})
			for _, c := range []byte{0, 1, 2, 'a', 0x7f, 0x80, 0xff} {
				taken(t, []byte{byte(a), byte(b), c})
				taken(t, []byte{byte(a), byte(b), c, 2})
			}
		}
	}
}

func TestTakeOfTurnedAndCut(t *testing.T) { // P12.2, P12.3
	for _, l := range good() {
		b := schema.Put(l)
		for i := range b {
			taken(t, b[:i])
			taken(t, b[i:])
			for by := range 256 {
				turned := bytes.Clone(b)
				turned[i] = byte(by)
				taken(t, turned)
				taken(t, slices.Insert(bytes.Clone(b), i, byte(by)))
			}
		}
	}
}

func TestTakeOfSourcesThatFailed(t *testing.T) { // P12.2
	failed := vint.From([]byte{1, 1, 'a', 2})
	failed.Fail()
	for _, source := range []*vint.Source{nil, failed, {}} {
		if got := schema.Take(source); len(got) != 0 || source.Ok() {
			t.Errorf("Take of a failed source = %+v", got)
		}
	}
}

func TestNothingIsShared(t *testing.T) { // rule 3: what is handed in stays, what is answered is nobody else's
	l := []api.Col{open("b", api.TyText), col("a", api.TyInt), col("c", api.TyBool)}
	kept := slices.Clone(l)
	row := []api.Cell{s("x"), n(1), n(0)}
	rowKept := slices.Clone(row)
	schema.Check(l)
	schema.Find(l, "a")
	schema.Row(l, row)
	schema.Same(l, kept)
	b := schema.Put(l)
	if !slices.Equal(l, kept) || !slices.Equal(row, rowKept) {
		t.Errorf("the columns or the row changed: %+v, %+v", l, row)
	}
	want := bytes.Clone(b)
	clear(b[:cap(b)])
	if again := schema.Put(l); !bytes.Equal(again, want) {
		t.Errorf("Put answers % x the second time", again)
	}
	source, other := vint.From(want), vint.From(want)
	handed := want
	got := schema.Take(source)
	clear(handed)
	clear(l)
	if !slices.Equal(got, kept) {
		t.Errorf("Take = %+v", got)
	}
	clear(got[:cap(got)])
	if again := schema.Take(other); !slices.Equal(again, kept) {
		t.Errorf("Take = %+v the second time", again)
	}
}

func TestManyColumns(t *testing.T) { // rule 1: so many columns end, too
	l := many(200000)
	if got := schema.Check(l); got != api.ErrMany {
		t.Errorf("Check of many = %v", got)
	}
	if got := schema.Check(append(l, l[0])); got != api.ErrArg {
		t.Errorf("Check of many, one of them twice, = %v", got)
	}
	source := vint.From(schema.Put(l))
	if got := schema.Take(source); len(got) != 0 || source.Ok() {
		t.Errorf("Take of many = %d columns", len(got))
	}
}
