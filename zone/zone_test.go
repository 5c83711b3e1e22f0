package zone_test

import (
	"bytes"
	"encoding/binary"
	"math"
	"slices"
	"strings"
	"testing"

	"firkin/api"
	"firkin/cell"
	"firkin/vint"
	"firkin/zone"
)

var null = api.Cell{Null: true}

// types is those that there are.
func types() []int {
	return []int{api.TyInt, api.TyBool, api.TyText}
}

// noTypes is numbers that are none.
func noTypes() []int {
	return []int{0, -1, 4, 5, -2, 257, 1<<32 + 1, math.MaxInt, math.MinInt}
}

// n is the cell of a number or a truth.
func n(i int64) api.Cell { return api.Cell{I: i} }

// s is the cell of a text.
func s(t string) api.Cell { return api.Cell{S: t} }

// x is a text of so many bytes.
func x(size int) string { return strings.Repeat("x", size) }

// mays is some cells that may be of that type and are not null, rising.
func mays(ty int) []api.Cell {
	switch ty {
	case api.TyInt:
		return []api.Cell{n(math.MinInt64), n(-300), n(-64), n(-1), n(0), n(1), n(2), n(63), n(64), n(1 << 32), n(math.MaxInt64)}
	case api.TyBool:
		return []api.Cell{n(0), n(1)}
	case api.TyText:
		return []api.Cell{s(""), s("\x00"), s("10"), s("9"), s("Z"), s("a"), s("a\x00"), s("ab"), s("b"), s(x(39)), s(x(40)), s("\x80"), s("é"), s("\xff")}
	}
	return nil
}

// mayNot is some cells that may not be of that type, or are null.
func mayNot(ty int) []api.Cell {
	l := []api.Cell{null, {Null: true, I: 1}, {Null: true, S: "a"}, {I: 1, S: "a"}}
	switch ty {
	case api.TyInt:
		return append(l, s("1"), s("\x00"))
	case api.TyBool:
		return append(l, n(2), n(-1), n(1<<32), s("a"))
	case api.TyText:
		return append(l, n(1), n(-1), s(x(41)), s(strings.Repeat("é", 21)))
	}
	return append(l, n(0), n(1), s("a"))
}

// dice is a row of numbers that is the same each time.
type dice uint64

// roll is a number below most.
func (d *dice) roll(most int) int {
	*d = *d*6364136223846793005 + 1442695040888963407
	return int(uint64(*d)>>33) % most
}

// draw is a list of so many cells that may be of that type, about one of a few null.
func draw(d *dice, ty, size, few int) []api.Cell {
	from := mays(ty)
	l := make([]api.Cell, size)
	for i := range l {
		l[i] = from[d.roll(len(from))]
		if d.roll(few) == 0 {
			l[i] = null
		}
	}
	return l
}

// lists is some lists of cells that may be of that type: short ones, ones with no null and with nulls alone, and ones of the most cells.
func lists(ty int) [][]api.Cell {
	d := dice(ty)
	l := [][]api.Cell{nil, {}, {null}, {null, null, null}}
	for _, c := range mays(ty) {
		l = append(l, []api.Cell{c}, []api.Cell{null, c}, []api.Cell{c, null, c})
	}
	for size := range 12 {
		for few := 1; few < 5; few++ {
			l = append(l, draw(&d, ty, size, few))
		}
	}
	for _, few := range []int{1, 2, api.MaxList, 1 << 30} {
		l = append(l, draw(&d, ty, api.MaxList, few), draw(&d, ty, api.MaxList-1, few))
	}
	return l
}

// ofByRule is l's zone as the chapter says it: the first and the last one of the others, put in order.
func ofByRule(l []api.Cell) api.Zone {
	var others []api.Cell
	for _, c := range l {
		if !c.Null {
			others = append(others, c)
		}
	}
	z := api.Zone{Rows: len(l), Nulls: len(l) - len(others)}
	if len(others) > 0 {
		slices.SortFunc(others, cell.Order)
		z.Low, z.High = others[0], others[len(others)-1]
	}
	return z
}

// rankByRule is the place among mays(ty) of a cell: below 0, if it is none of them.
func rankByRule(ty int, c api.Cell) int {
	return slices.Index(mays(ty), c)
}

// mayByRule is whether z may be, if its cells are of mays(ty) and mayNot(ty).
func mayByRule(ty int, z api.Zone) bool {
	if z.Rows < 0 || z.Rows > 4096 || z.Nulls < 0 || z.Nulls > z.Rows || ty < 1 || ty > 3 {
		return false
	}
	if z.Rows == z.Nulls {
		return z.Low == api.Cell{} && z.High == api.Cell{}
	}
	low, high := rankByRule(ty, z.Low), rankByRule(ty, z.High)
	return low >= 0 && low <= high
}

// cellByRule is a cell's bytes, one that is not null.
func cellByRule(ty int, c api.Cell) []byte {
	if ty == api.TyText {
		return append(binary.AppendUvarint([]byte{1}, uint64(len(c.S))), c.S...)
	}
	return binary.AppendVarint([]byte{1}, c.I)
}

// putByRule is the bytes of a zone that may be.
func putByRule(ty int, z api.Zone) []byte {
	b := binary.AppendUvarint(nil, uint64(z.Rows))
	b = binary.AppendUvarint(b, uint64(z.Nulls))
	if z.Nulls < z.Rows {
		b = append(b, cellByRule(ty, z.Low)...)
		b = append(b, cellByRule(ty, z.High)...)
	}
	return b
}

// numberByRule is the number that b begins with, and how many bytes it has: 0, if there is none in its one form.
func numberByRule(b []byte) (uint64, int) {
	got, size := binary.Uvarint(b)
	if size <= 0 || size > 1 && b[size-1] == 0 {
		return 0, 0
	}
	return got, size
}

// cellReadByRule is the cell, not null, that b begins with, and how many bytes it has: 0, if there is none.
func cellReadByRule(ty int, b []byte) (api.Cell, int) {
	if ty < 1 || ty > 3 || len(b) == 0 || b[0] != 1 {
		return api.Cell{}, 0
	}
	got, size := numberByRule(b[1:])
	if size == 0 {
		return api.Cell{}, 0
	}
	if ty == 3 {
		if got > 40 || uint64(len(b)-1-size) < got {
			return api.Cell{}, 0
		}
		return s(string(b[1+size:][:got])), 1 + size + int(got)
	}
	i := int64(got>>1) ^ -int64(got&1)
	if ty == 2 && i != 0 && i != 1 {
		return api.Cell{}, 0
	}
	return n(i), 1 + size
}

// readByRule is the zone that b begins with, and how many bytes it has: 0, if there is none.
func readByRule(ty int, b []byte) (api.Zone, int) {
	rows, at := numberByRule(b)
	nulls, more := numberByRule(b[at:])
	if at == 0 || more == 0 || rows > 4096 || nulls > rows || ty < 1 || ty > 3 {
		return api.Zone{}, 0
	}
	at += more
	z := api.Zone{Rows: int(rows), Nulls: int(nulls)}
	if nulls == rows {
		return z, at
	}
	low, lows := cellReadByRule(ty, b[at:])
	if lows == 0 {
		return api.Zone{}, 0
	}
	high, highs := cellReadByRule(ty, b[at+lows:])
	if highs == 0 || low.I > high.I || low.S > high.S {
		return api.Zone{}, 0
	}
	z.Low, z.High = low, high
	return z, at + lows + highs
}

func TestOfKnown(t *testing.T) { // P11.1
	for _, c := range []struct {
		l    []api.Cell
		want api.Zone
	}{
		{nil, api.Zone{}},
		{[]api.Cell{}, api.Zone{}},
		{[]api.Cell{n(3), null, n(-1)}, api.Zone{Rows: 3, Nulls: 1, Low: n(-1), High: n(3)}},
		{[]api.Cell{null}, api.Zone{Rows: 1, Nulls: 1}},
		{[]api.Cell{null, null}, api.Zone{Rows: 2, Nulls: 2}},
		{[]api.Cell{n(0)}, api.Zone{Rows: 1}},
		{[]api.Cell{n(7)}, api.Zone{Rows: 1, Low: n(7), High: n(7)}},
		{[]api.Cell{n(-7)}, api.Zone{Rows: 1, Low: n(-7), High: n(-7)}},
		{[]api.Cell{n(7), n(7), n(7)}, api.Zone{Rows: 3, Low: n(7), High: n(7)}},
		{[]api.Cell{n(5), n(4), n(9)}, api.Zone{Rows: 3, Low: n(4), High: n(9)}},
		{[]api.Cell{n(5), n(6)}, api.Zone{Rows: 2, Low: n(5), High: n(6)}},
		{[]api.Cell{n(6), n(5)}, api.Zone{Rows: 2, Low: n(5), High: n(6)}},
		{[]api.Cell{n(-6), n(-5)}, api.Zone{Rows: 2, Low: n(-6), High: n(-5)}},
		{[]api.Cell{null, n(-6), n(-5), null}, api.Zone{Rows: 4, Nulls: 2, Low: n(-6), High: n(-5)}},
		{[]api.Cell{n(math.MaxInt64), n(math.MinInt64), n(0)}, api.Zone{Rows: 3, Low: n(math.MinInt64), High: n(math.MaxInt64)}},
		{[]api.Cell{n(1), n(0), n(1)}, api.Zone{Rows: 3, High: n(1)}},
		{[]api.Cell{s("9"), s("10")}, api.Zone{Rows: 2, Low: s("10"), High: s("9")}},
		{[]api.Cell{s("a"), s("Z"), null, s("\xff")}, api.Zone{Rows: 4, Nulls: 1, Low: s("Z"), High: s("\xff")}},
		{[]api.Cell{s("a"), s("a\x00")}, api.Zone{Rows: 2, Low: s("a"), High: s("a\x00")}},
		{[]api.Cell{s("a"), s("")}, api.Zone{Rows: 2, High: s("a")}},
		{[]api.Cell{s(""), s("a")}, api.Zone{Rows: 2, High: s("a")}},
		{[]api.Cell{{Null: true, I: -9, S: "z"}, n(1)}, api.Zone{Rows: 2, Nulls: 1, Low: n(1), High: n(1)}},
		{[]api.Cell{{Null: true, I: 9}}, api.Zone{Rows: 1, Nulls: 1}},
		{[]api.Cell{{I: 1, S: "a"}, {I: 1, S: "b"}, {S: "c"}}, api.Zone{Rows: 3, Low: s("c"), High: api.Cell{I: 1, S: "b"}}},
	} {
		if got := zone.Of(c.l); got != c.want {
			t.Errorf("Of(%+v) = %+v, want %+v", c.l, got, c.want)
		}
	}
}

func TestOfByRule(t *testing.T) { // P11.1
	for _, ty := range types() {
		for _, l := range lists(ty) {
			if got, want := zone.Of(l), ofByRule(l); got != want {
				t.Errorf("Of %d cells of type %d = %+v, want %+v", len(l), ty, got, want)
			}
		}
	}
}

func TestOfInAnyOrder(t *testing.T) { // P11.1: where the least and the greatest stand does not matter
	l := []api.Cell{n(-3), n(4), null, n(0), n(9)}
	want := api.Zone{Rows: 5, Nulls: 1, Low: n(-3), High: n(9)}
	for a := range l {
		for b := range l {
			for c := range l {
				l[a], l[b] = l[b], l[a]
				l[b], l[c] = l[c], l[b]
				if got := zone.Of(l); got != want {
					t.Fatalf("Of(%+v) = %+v", l, got)
				}
			}
		}
	}
}

func TestOfMoreThanMayBe(t *testing.T) { // P11.1: they are counted all the same
	l := append(slices.Repeat([]api.Cell{n(4)}, api.MaxList), n(3))
	z := zone.Of(l)
	if z != (api.Zone{Rows: api.MaxList + 1, Low: n(3), High: n(4)}) {
		t.Errorf("Of one cell above MaxList is %+v", z)
	}
	if zone.May(api.TyInt, z) || !zone.May(api.TyInt, zone.Of(l[1:])) {
		t.Error("one cell above MaxList may be, or MaxList may not")
	}
}

func TestMayKnown(t *testing.T) { // P11.1
	for _, c := range []struct {
		ty   int
		z    api.Zone
		want bool
	}{
		{api.TyInt, api.Zone{}, true},
		{api.TyBool, api.Zone{}, true},
		{api.TyText, api.Zone{}, true},
		{0, api.Zone{}, false},
		{4, api.Zone{}, false},
		{-1, api.Zone{Rows: 2, Nulls: 2}, false},
		{api.TyInt, api.Zone{Rows: 3, Nulls: 1, Low: n(-1), High: n(3)}, true},
		{api.TyText, api.Zone{Rows: 3, Nulls: 1, Low: n(-1), High: n(3)}, false},
		{api.TyBool, api.Zone{Rows: 3, Nulls: 1, Low: n(0), High: n(3)}, false},
		{api.TyBool, api.Zone{Rows: 3, Nulls: 1, Low: n(-1), High: n(1)}, false},
		{api.TyBool, api.Zone{Rows: 3, Nulls: 1, Low: n(0), High: n(1)}, true},
		{4, api.Zone{Rows: 3, Nulls: 1, Low: n(0), High: n(1)}, false},
		{api.TyInt, api.Zone{Rows: 1, Nulls: 1}, true},
		{api.TyInt, api.Zone{Rows: 1, Nulls: 1, Low: n(1)}, false},
		{api.TyInt, api.Zone{Rows: 1, Nulls: 1, High: n(1)}, false},
		{api.TyInt, api.Zone{Rows: 1, Nulls: 1, Low: n(1), High: n(1)}, false},
		{api.TyInt, api.Zone{Rows: 1, Nulls: 1, Low: null, High: null}, false},
		{api.TyText, api.Zone{Rows: 1, Nulls: 1, Low: s("a"), High: s("a")}, false},
		{api.TyInt, api.Zone{Low: n(1), High: n(1)}, false},
		{api.TyInt, api.Zone{Rows: 1}, true},
		{api.TyText, api.Zone{Rows: 1}, true},
		{api.TyInt, api.Zone{Rows: 2, Low: n(4), High: n(3)}, false},
		{api.TyInt, api.Zone{Rows: 2, Low: n(4), High: n(4)}, true},
		{api.TyInt, api.Zone{Rows: 2, Low: n(4)}, false},
		{api.TyInt, api.Zone{Rows: 2, Low: n(-4)}, true},
		{api.TyInt, api.Zone{Rows: 2, Low: null, High: n(4)}, false},
		{api.TyInt, api.Zone{Rows: 2, Nulls: 1, Low: null, High: n(4)}, false},
		{api.TyInt, api.Zone{Rows: 2, Low: null, High: null}, false},
		{api.TyText, api.Zone{Rows: 2, Low: s("9"), High: s("10")}, false},
		{api.TyText, api.Zone{Rows: 2, Low: s("10"), High: s("9")}, true},
		{api.TyText, api.Zone{Rows: 2, Low: s("a"), High: s(x(40))}, true},
		{api.TyText, api.Zone{Rows: 2, Low: s("a"), High: s(x(41))}, false},
		{api.TyText, api.Zone{Rows: 2, Low: s(x(41)), High: s("y")}, false},
		{api.TyInt, api.Zone{Rows: 2, Low: s("a"), High: n(4)}, false},
		{api.TyInt, api.Zone{Rows: -1, Nulls: -1}, false},
		{api.TyInt, api.Zone{Rows: -1, Nulls: -2, Low: n(1), High: n(1)}, false},
		{api.TyInt, api.Zone{Rows: 0, Nulls: -1, Low: n(1), High: n(1)}, false},
		{api.TyInt, api.Zone{Rows: 1, Nulls: -1, Low: n(1), High: n(1)}, false},
		{api.TyInt, api.Zone{Rows: 1, Nulls: 2}, false},
		{api.TyInt, api.Zone{Rows: 0, Nulls: 1}, false},
		{api.TyInt, api.Zone{Rows: 1, Nulls: 2, Low: n(1), High: n(1)}, false},
		{api.TyInt, api.Zone{Rows: 4096, Nulls: 4096}, true},
		{api.TyInt, api.Zone{Rows: 4096, Nulls: 4095, Low: n(1), High: n(1)}, true},
		{api.TyInt, api.Zone{Rows: 4097, Nulls: 4097}, false},
		{api.TyInt, api.Zone{Rows: 4097, Low: n(1), High: n(1)}, false},
		{api.TyInt, api.Zone{Rows: math.MaxInt, Nulls: math.MinInt, Low: n(1), High: n(1)}, false},
		{api.TyInt, api.Zone{Rows: math.MinInt, Nulls: math.MaxInt}, false},
		{api.TyInt, api.Zone{Rows: math.MinInt, Nulls: math.MinInt}, false},
		{api.TyInt, api.Zone{Rows: math.MaxInt, Nulls: math.MaxInt}, false},
	} {
		if got := zone.May(c.ty, c.z); got != c.want {
			t.Errorf("May(%d, %+v) = %v", c.ty, c.z, got)
		}
	}
}

// zones is zones that may be of that type and zones that may not, of all sorts.
func zones(ty int) []api.Zone {
	counts := []int{math.MinInt, -4096, -1, 0, 1, 2, 127, 128, 4095, 4096, 4097, 1 << 32, math.MaxInt}
	bounds := append(append([]api.Cell{{}}, mays(ty)...), mayNot(ty)...)
	var l []api.Zone
	for _, rows := range counts {
		for _, nulls := range counts {
			for _, low := range bounds {
				for _, high := range bounds {
					l = append(l, api.Zone{Rows: rows, Nulls: nulls, Low: low, High: high})
				}
			}
		}
	}
	return l
}

func TestMayByRule(t *testing.T) { // P11.1
	for _, ty := range append(types(), noTypes()...) {
		for _, z := range zones(ty) {
			if got := zone.May(ty, z); got != mayByRule(ty, z) {
				t.Fatalf("May(%d, %+v) = %v", ty, z, got)
			}
		}
	}
}

func TestNoneMayBeOfAnotherType(t *testing.T) { // P11.1, P11.3
	for _, ty := range noTypes() {
		for _, as := range types() {
			for _, z := range zones(as) {
				if zone.May(ty, z) || len(zone.Put(ty, z)) > 0 {
					t.Fatalf("%+v may be of type %d, or is put", z, ty)
				}
			}
		}
	}
}

func TestJoinKnown(t *testing.T) { // P11.2
	some := api.Zone{Rows: 3, Nulls: 1, Low: n(-1), High: n(3)}
	nulls := api.Zone{Rows: 2, Nulls: 2}
	for _, c := range []struct{ a, b, want api.Zone }{
		{api.Zone{}, api.Zone{}, api.Zone{}},
		{some, api.Zone{}, some},
		{some, some, api.Zone{Rows: 6, Nulls: 2, Low: n(-1), High: n(3)}},
		{some, nulls, api.Zone{Rows: 5, Nulls: 3, Low: n(-1), High: n(3)}},
		{nulls, nulls, api.Zone{Rows: 4, Nulls: 4}},
		{nulls, api.Zone{}, nulls},
		{nulls, api.Zone{Rows: 1, Low: n(4), High: n(4)}, api.Zone{Rows: 3, Nulls: 2, Low: n(4), High: n(4)}},
		{nulls, api.Zone{Rows: 1, Low: n(-4), High: n(-4)}, api.Zone{Rows: 3, Nulls: 2, Low: n(-4), High: n(-4)}},
		{some, api.Zone{Rows: 2, Low: n(0), High: n(1)}, api.Zone{Rows: 5, Nulls: 1, Low: n(-1), High: n(3)}},
		{some, api.Zone{Rows: 2, Low: n(0), High: n(4)}, api.Zone{Rows: 5, Nulls: 1, Low: n(-1), High: n(4)}},
		{some, api.Zone{Rows: 2, Low: n(-2), High: n(1)}, api.Zone{Rows: 5, Nulls: 1, Low: n(-2), High: n(3)}},
		{some, api.Zone{Rows: 2, Low: n(5), High: n(6)}, api.Zone{Rows: 5, Nulls: 1, Low: n(-1), High: n(6)}},
		{some, api.Zone{Rows: 2, Low: n(-6), High: n(-5)}, api.Zone{Rows: 5, Nulls: 1, Low: n(-6), High: n(3)}},
		{api.Zone{Rows: 1, Low: s("9"), High: s("9")}, api.Zone{Rows: 1, Low: s("10"), High: s("10")}, api.Zone{Rows: 2, Low: s("10"), High: s("9")}},
		{api.Zone{Rows: 4096, Nulls: 4095, Low: n(5), High: n(5)}, api.Zone{Rows: 4096, Nulls: 4096}, api.Zone{Rows: 8192, Nulls: 8191, Low: n(5), High: n(5)}},
	} {
		if got, turned := zone.Join(c.a, c.b), zone.Join(c.b, c.a); got != c.want || turned != c.want {
			t.Errorf("Join(%+v, %+v) = %+v, turned round %+v, want %+v", c.a, c.b, got, turned, c.want)
		}
	}
}

func TestJoinIsOfBothTogether(t *testing.T) { // P11.2, P11.4
	for _, ty := range types() {
		all := lists(ty)
		for _, a := range all {
			for _, b := range all[:60] {
				got, want := zone.Join(zone.Of(a), zone.Of(b)), ofByRule(slices.Concat(b, a))
				if got != want || got != zone.Join(zone.Of(b), zone.Of(a)) {
					t.Fatalf("the zones of %d and %d cells of type %d join to %+v, want %+v", len(a), len(b), ty, got, want)
				}
			}
		}
	}
}

func TestJoinOneByOne(t *testing.T) { // P11.4
	for _, ty := range types() {
		for _, l := range lists(ty) {
			z := zone.Of(nil)
			for i := range l {
				z = zone.Join(z, zone.Of(l[i:i+1]))
			}
			if z != zone.Of(l) {
				t.Fatalf("%d cells of type %d, joined one by one, are %+v", len(l), ty, z)
			}
		}
	}
}

func TestHasKnown(t *testing.T) { // P11.2
	some := api.Zone{Rows: 3, Nulls: 1, Low: n(-1), High: n(3)}
	full := api.Zone{Rows: 2, Low: n(-1), High: n(3)}
	texts := api.Zone{Rows: 2, Low: s("10"), High: s("9")}
	for _, c := range []struct {
		z    api.Zone
		c    api.Cell
		want bool
	}{
		{some, null, true},
		{some, api.Cell{Null: true, I: 99}, true},
		{some, n(-2), false},
		{some, n(-1), true},
		{some, n(0), true},
		{some, n(3), true},
		{some, n(4), false},
		{some, n(math.MinInt64), false},
		{some, n(math.MaxInt64), false},
		{full, null, false},
		{full, api.Cell{Null: true, I: 2}, false},
		{full, n(2), true},
		{full, api.Cell{I: 3, S: "a"}, false},
		{full, api.Cell{I: 2, S: "a"}, true},
		{texts, s("1"), false},
		{texts, s("10"), true},
		{texts, s("11"), true},
		{texts, s("9"), true},
		{texts, s("9\x00"), false},
		{texts, s(""), false},
		{api.Zone{Rows: 1, Nulls: 1}, null, true},
		{api.Zone{Rows: 1, Nulls: 1}, n(0), false},
		{api.Zone{Rows: 1, Nulls: 1}, s(""), false},
		{api.Zone{}, null, false},
		{api.Zone{}, n(0), false},
		{api.Zone{Rows: 1}, n(0), true},
		{api.Zone{Rows: 1}, n(1), false},
		{api.Zone{Rows: 1}, n(-1), false},
		{api.Zone{Rows: 1}, null, false},
	} {
		if got := zone.Has(c.z, c.c); got != c.want {
			t.Errorf("Has(%+v, %+v) = %v", c.z, c.c, got)
		}
	}
}

func TestHasByRule(t *testing.T) { // P11.2: of zones that may be
	for _, ty := range types() {
		for _, z := range zones(ty) {
			if !mayByRule(ty, z) {
				continue
			}
			low, high := rankByRule(ty, z.Low), rankByRule(ty, z.High)
			for i, c := range mays(ty) {
				if got := zone.Has(z, c); got != (z.Rows > z.Nulls && low <= i && i <= high) {
					t.Fatalf("Has(%+v, %+v) = %v", z, c, got)
				}
			}
			if got := zone.Has(z, null); got != (z.Nulls > 0) {
				t.Fatalf("Has(%+v, null) = %v", z, got)
			}
		}
	}
}

func TestOfMayBeAndHasEach(t *testing.T) { // P11.4
	for _, ty := range types() {
		for _, l := range lists(ty) {
			z := zone.Of(l)
			if !zone.May(ty, z) {
				t.Errorf("%+v, of %d cells of type %d, may not be", z, len(l), ty)
			}
			for _, c := range l {
				if !zone.Has(z, c) {
					t.Fatalf("%+v has not %+v", z, c)
				}
			}
			if zone.Has(z, null) != slices.Contains(l, null) {
				t.Errorf("%+v has null, and its cells have not, or the other way round", z)
			}
		}
	}
}

func TestPutKnown(t *testing.T) { // P11.3
	for _, c := range []struct {
		ty   int
		z    api.Zone
		want []byte
	}{
		{api.TyInt, api.Zone{Rows: 3, Nulls: 1, Low: n(-1), High: n(3)}, []byte{3, 1, 1, 1, 1, 6}},
		{api.TyInt, api.Zone{}, []byte{0, 0}},
		{api.TyBool, api.Zone{}, []byte{0, 0}},
		{api.TyText, api.Zone{}, []byte{0, 0}},
		{api.TyInt, api.Zone{Rows: 1}, []byte{1, 0, 1, 0, 1, 0}},
		{api.TyText, api.Zone{Rows: 1}, []byte{1, 0, 1, 0, 1, 0}},
		{api.TyBool, api.Zone{Rows: 2, High: n(1)}, []byte{2, 0, 1, 0, 1, 2}},
		{api.TyText, api.Zone{Rows: 2, Low: s("ab"), High: s("c")}, []byte{2, 0, 1, 2, 'a', 'b', 1, 1, 'c'}},
		{api.TyText, api.Zone{Rows: 300, Nulls: 300}, []byte{0xac, 2, 0xac, 2}},
		{api.TyInt, api.Zone{Rows: 300, Nulls: 299, Low: n(150), High: n(150)}, []byte{0xac, 2, 0xab, 2, 1, 0xac, 2, 1, 0xac, 2}},
		{api.TyInt, api.Zone{Rows: 4096, Nulls: 128, Low: n(math.MinInt64), High: n(math.MaxInt64)}, []byte{0x80, 0x20, 0x80, 1,
			1, 0xff, 0xff, 0xff, 0xff, 0xff, 0xff, 0xff, 0xff, 0xff, 1,
			1, 0xfe, 0xff, 0xff, 0xff, 0xff, 0xff, 0xff, 0xff, 0xff, 1}},
	} {
		if got := zone.Put(c.ty, c.z); !bytes.Equal(got, c.want) {
			t.Errorf("Put(%d, %+v) = % x, want % x", c.ty, c.z, got, c.want)
		}
		source := vint.From(c.want)
		if got := zone.Take(source, c.ty); got != c.z || !source.End() {
			t.Errorf("Take of % x as type %d = %+v, %v", c.want, c.ty, got, source.Ok())
		}
	}
}

func TestPutAndTakeByRule(t *testing.T) { // P11.3, P11.4: one that may not be is nothing, also where it could be laid
	for _, ty := range types() {
		for _, z := range zones(ty) {
			got := zone.Put(ty, z)
			if !mayByRule(ty, z) {
				if len(got) > 0 {
					t.Fatalf("Put(%d, %+v) = % x", ty, z, got)
				}
				continue
			}
			if !bytes.Equal(got, putByRule(ty, z)) {
				t.Fatalf("Put(%d, %+v) = % x", ty, z, got)
			}
			source := vint.From(append(got, 7, 9))
			if back := zone.Take(source, ty); back != z || source.Left() != 2 || source.Num() != 7 {
				t.Fatalf("Take of % x as type %d = %+v", got, ty, back)
			}
		}
	}
}

// taken is that Take reads of b what the chapter says, and stands behind it, or fails.
func taken(t *testing.T, ty int, b []byte) {
	t.Helper()
	source := vint.From(b)
	got := zone.Take(source, ty)
	want, size := readByRule(ty, b)
	if got != want || source.Ok() != (size > 0) || size > 0 && source.Left() != len(b)-size {
		t.Fatalf("Take of % x as type %d = %+v, %v; want %+v of %d bytes", b, ty, got, source.Ok(), want, size)
	}
	if size > 0 && !bytes.Equal(zone.Put(ty, got), b[:size]) {
		t.Fatalf("% x is taken as %+v, which is put as % x", b[:size], got, zone.Put(ty, got))
	}
}

func TestTakeKnown(t *testing.T) { // P11.3
	for _, c := range []struct {
		ty int
		b  []byte
	}{
		{api.TyInt, nil},
		{api.TyInt, []byte{0}},
		{api.TyInt, []byte{3}},
		{api.TyInt, []byte{3, 1}},
		{api.TyInt, []byte{3, 1, 1}},
		{api.TyInt, []byte{3, 1, 1, 1}},
		{api.TyInt, []byte{3, 1, 1, 1, 1}},
		{api.TyInt, []byte{3, 1, 1, 6, 1, 1}}, // Low is behind High
		{api.TyInt, []byte{3, 1, 0, 1, 6}},    // Low is null
		{api.TyInt, []byte{3, 1, 1, 1, 0}},    // High is null
		{api.TyInt, []byte{3, 1, 0, 0}},       // both are
		{api.TyInt, []byte{3, 1, 2, 1, 1, 6}}, // no cell begins so
		{api.TyInt, []byte{1, 2}},             // more nulls than cells
		{api.TyInt, []byte{0, 1}},             // the same
		{api.TyInt, []byte{1, 2, 1, 1, 1, 6}}, // the same, with bounds
		{api.TyInt, []byte{0x81, 0x20, 0}},    // 4097 cells
		{api.TyInt, []byte{0x81, 0x20, 0x81, 0x20}},
		{api.TyInt, []byte{0x81, 0x20, 0, 1, 0, 1, 0}},
		{api.TyInt, []byte{0x80, 0x20, 0x81, 0x20}},
		{api.TyInt, []byte{0xff, 0xff, 0xff, 0xff, 0xff, 0xff, 0xff, 0xff, 0xff, 1, 0}},
		{api.TyInt, []byte{0xff, 0xff, 0xff, 0xff, 0xff, 0xff, 0xff, 0xff, 0xff, 1, 0xff, 0xff, 0xff, 0xff, 0xff, 0xff, 0xff, 0xff, 0xff, 1}},
		{api.TyInt, []byte{0x80, 0x80, 0x80, 0x80, 0x10, 0}}, // 2^32 cells
		{api.TyInt, []byte{0x83, 0, 1, 1, 1, 1, 6}},          // no number's one form
		{api.TyInt, []byte{3, 0x81, 0, 1, 1, 1, 6}},          // the same
		{api.TyBool, []byte{3, 1, 1, 0, 1, 4}},               // 2 is no truth
		{api.TyBool, []byte{3, 1, 1, 1, 1, 2}},               // nor is -1
		{api.TyBool, []byte{3, 1, 1, 2, 1, 0}},               // true is behind false
		{api.TyText, []byte{2, 0, 1, 1, 'b', 1, 1, 'a'}},
		{api.TyText, []byte{2, 0, 1, 1, 'b', 1, 2, 'c'}},
		{api.TyText, append([]byte{2, 0, 1, 0, 1, 41}, x(41)...)},
		{api.TyText, append(append([]byte{2, 0, 1, 41}, x(41)...), 1, 1, 'y')},
		{0, []byte{0, 0}},
		{4, []byte{0, 0}},
		{-1, []byte{1, 1}},
		{0, []byte{3, 1, 0, 0}},
		{4, []byte{3, 1, 1, 1}},
		{math.MinInt, []byte{3, 1, 1, 1, 1, 6}},
	} {
		source := vint.From(c.b)
		if got := zone.Take(source, c.ty); got != (api.Zone{}) || source.Ok() || source.Left() != 0 {
			t.Errorf("Take of % x as type %d = %+v, %v", c.b, c.ty, got, source.Ok())
		}
	}
}

func TestTakeOfTheMost(t *testing.T) { // P11.3: 4096 cells and nulls may be
	for _, c := range []struct {
		b    []byte
		want api.Zone
	}{
		{[]byte{0x80, 0x20, 0x80, 0x20}, api.Zone{Rows: 4096, Nulls: 4096}},
		{[]byte{0x80, 0x20, 0xff, 0x1f, 1, 2, 1, 2}, api.Zone{Rows: 4096, Nulls: 4095, Low: n(1), High: n(1)}},
		{[]byte{0x80, 0x20, 0, 1, 1, 1, 2}, api.Zone{Rows: 4096, Low: n(-1), High: n(1)}},
	} {
		source := vint.From(c.b)
		if got := zone.Take(source, api.TyInt); got != c.want || !source.End() {
			t.Errorf("Take of % x = %+v, %v", c.b, got, source.Ok())
		}
	}
}

func TestTakeOfAllShort(t *testing.T) { // P11.3: of all bytes of up to three, and of those with bounds of all bytes
	for _, ty := range []int{0, 1, 2, 3, 4} {
		taken(t, ty, nil)
		for a := range 256 {
			taken(t, ty, []byte{byte(a)})
			for b := range 256 {
				taken(t, ty, []byte{byte(a), byte(b)})
				taken(t, ty, []byte{2, 1, 1, byte(a), 1, byte(b)})
				taken(t, ty, []byte{2, 0, byte(a), 1, byte(b), 1, 3})
				taken(t, ty, []byte{byte(a), 0x20, byte(b), 0x20})
				taken(t, ty, []byte{byte(a), byte(b), 1, 0, 1, 0})
				for _, c := range []byte{0, 1, 2, 0x7f, 0x80, 0xff} {
					taken(t, ty, []byte{byte(a), byte(b), c})
				}
			}
		}
	}
}

func TestTakeOfTurnedAndCut(t *testing.T) { // P11.3
	for _, ty := range types() {
		for _, l := range lists(ty)[:60] {
			b := zone.Put(ty, zone.Of(l))
			for i := range b {
				taken(t, ty, b[:i])
				for by := range 256 {
					turned := bytes.Clone(b)
					turned[i] = byte(by)
					taken(t, ty, turned)
				}
			}
			for _, as := range []int{1, 2, 3, 4} {
				taken(t, as, b)
			}
		}
	}
}

func TestTakeOfSourcesThatFailed(t *testing.T) { // P11.3
	for _, ty := range append(types(), noTypes()...) {
		failed := vint.From([]byte{0, 0})
		failed.Fail()
		for _, source := range []*vint.Source{nil, failed, {}} {
			if got := zone.Take(source, ty); got != (api.Zone{}) || source.Ok() {
				t.Errorf("Take of a failed source as type %d = %+v", ty, got)
			}
		}
	}
}

func TestOneBehindTheOther(t *testing.T) { // P11.4
	for _, ty := range types() {
		var b []byte
		var want []api.Zone
		for _, l := range lists(ty) {
			want = append(want, zone.Of(l))
			b = append(b, zone.Put(ty, zone.Of(l))...)
		}
		source := vint.From(b)
		for _, z := range want {
			if got := zone.Take(source, ty); got != z {
				t.Fatalf("%+v comes back as %+v", z, got)
			}
		}
		if !source.End() {
			t.Error("something is left behind the last zone")
		}
	}
}

func TestAnyZoneIsAnswered(t *testing.T) { // P11.2: Join and Has of zones that may not be answer too, and the same again
	for _, a := range zones(api.TyInt) {
		b := api.Zone{Rows: math.MaxInt, Nulls: 1, Low: n(3), High: n(-3)}
		if zone.Join(a, b) != zone.Join(a, b) || zone.Has(a, n(1)) != zone.Has(a, n(1)) || zone.Has(b, n(0)) {
			t.Fatalf("of %+v another answer comes the second time", a)
		}
	}
}

func TestNothingIsShared(t *testing.T) { // rule 3: what is handed in stays, what is answered is nobody else's
	l := []api.Cell{n(3), null, n(-1)}
	kept := slices.Clone(l)
	z := zone.Of(l)
	if !slices.Equal(l, kept) {
		t.Errorf("Of changed the cells to %+v", l)
	}
	l[0], l[2] = n(50), n(-50)
	if z != zone.Of(kept) {
		t.Errorf("the zone changed with the list, to %+v", z)
	}
	b := zone.Put(api.TyInt, z)
	want := bytes.Clone(b)
	clear(b[:cap(b)])
	if again := zone.Put(api.TyInt, z); !bytes.Equal(again, want) {
		t.Errorf("Put answers % x the second time", again)
	}
	source := vint.From(want)
	want[4] = 0xff
	if got := zone.Take(source, api.TyInt); got != z {
		t.Errorf("Take = %+v", got)
	}
}
