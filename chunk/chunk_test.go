package chunk_test

import (
	"bytes"
	"encoding/binary"
	"fmt"
	"math"
	"slices"
	"strings"
	"testing"

	"firkin/api"
	"firkin/chunk"
	"firkin/delta"
	"firkin/dict"
	"firkin/runs"
	"firkin/tight"
)

// types is those that there are.
func types() []int {
	return []int{api.TyInt, api.TyBool, api.TyText}
}

// noTypes is numbers that are none.
func noTypes() []int {
	return []int{0, -1, -2, -3, 4, 5, 6, 8, 9, 257, 1<<32 + 1, math.MaxInt, math.MinInt}
}

// noCounts is how many cells no chunk has.
func noCounts() []int {
	return []int{-1, -2, -8, -9, -api.MaxList, math.MinInt32, math.MinInt, math.MinInt + 1, api.MaxList + 1, api.MaxList + 8, 2 * api.MaxList, math.MaxInt32, 1 << 32, math.MaxInt - 7, math.MaxInt - 1, math.MaxInt}
}

func null() api.Cell                         { return api.Cell{Null: true} }
func number(n int64) api.Cell                { return api.Cell{I: n} }
func text(s string) api.Cell                 { return api.Cell{S: s} }
func repeat(n int, l ...api.Cell) []api.Cell { return slices.Repeat(l, n) }

// numbers is cells of these.
func numbers(l ...int64) []api.Cell {
	var cells []api.Cell
	for _, n := range l {
		cells = append(cells, number(n))
	}
	return cells
}

// texts is cells of these.
func texts(l ...string) []api.Cell {
	var cells []api.Cell
	for _, t := range l {
		cells = append(cells, text(t))
	}
	return cells
}

// split is the numbers and the texts of those of l that are not null, and which ones are, as bits.
func split(l []api.Cell) ([]int64, []string, []byte) {
	var n []int64
	var t []string
	bits := make([]byte, (len(l)+7)/8)
	for i, c := range l {
		if c.Null {
			bits[i/8] |= 1 << (i % 8)
			continue
		}
		n, t = append(n, c.I), append(t, c.S)
	}
	return n, t, bits
}

// inWay is l as bytes in the way of that number, be it the shortest or not.
func inWay(way int, l []api.Cell) []byte {
	n, t, bits := split(l)
	first, b := byte(way), []byte(nil)
	if slices.Contains(l, null()) {
		first, b = byte(way+8), bits
	}
	switch way {
	case 1:
		for _, x := range n {
			b = binary.AppendVarint(b, x)
		}
	case 2:
		b = append(b, runs.Put(n)...)
	case 3:
		b = append(b, delta.Put(n)...)
	case 4:
		b = append(b, tight.Put(n)...)
	case 5:
		for _, s := range t {
			b = append(binary.AppendUvarint(b, uint64(len(s))), s...)
		}
	case 6:
		b = append(b, dict.Put(t)...)
	}
	return append([]byte{first}, b...)
}

// waysOf is the numbers of a type's ways.
func waysOf(ty int) []int {
	switch ty {
	case api.TyInt, api.TyBool:
		return []int{1, 2, 3, 4}
	case api.TyText:
		return []int{5, 6}
	}
	return nil
}

// byRule is l as bytes in the shortest way, the first of those as short.
func byRule(ty int, l []api.Cell) []byte {
	var b []byte
	for _, way := range waysOf(ty) {
		if other := inWay(way, l); b == nil || len(other) < len(b) {
			b = other
		}
	}
	return b
}

// readByRule is the n cells of that type that b is, and whether it is such: it looks at the bits one by one, and at each way by itself.
func readByRule(ty int, b []byte, n int) ([]api.Cell, bool) {
	if n < 0 || n > 4096 || len(b) == 0 {
		return nil, false
	}
	way, rest := int(b[0]), b[1:]
	l, others := make([]api.Cell, n), n
	if way >= 8 {
		way -= 8
		if len(rest) < (n+7)/8 {
			return nil, false
		}
		for i := range (n + 7) / 8 * 8 {
			if rest[i/8]>>(i%8)&1 == 0 {
				continue
			}
			if i >= n {
				return nil, false
			}
			l[i].Null = true
			others--
		}
		if others == n {
			return nil, false
		}
		rest = rest[(n+7)/8:]
	}
	if !slices.Contains(waysOf(ty), way) {
		return nil, false
	}
	var x []int64
	var t []string
	is := true
	switch way {
	case 1:
		for range others {
			got, k := binary.Varint(rest)
			if k <= 0 || k > 1 && rest[k-1] == 0 {
				return nil, false
			}
			x, rest = append(x, got), rest[k:]
		}
		is = len(rest) == 0
	case 2:
		x, is = runs.Get(rest, others)
	case 3:
		x, is = delta.Get(rest, others)
	case 4:
		x, is = tight.Get(rest, others)
	case 5:
		t, is = dict.Texts(rest, others, 40)
	case 6:
		t, is = dict.Get(rest, others, 40)
	}
	if !is {
		return nil, false
	}
	at := 0
	for i := range l {
		switch {
		case l[i].Null:
			continue
		case ty == api.TyText:
			l[i].S = t[at]
		case ty == api.TyBool && x[at] != 0 && x[at] != 1:
			return nil, false
		default:
			l[i].I = x[at]
		}
		at++
	}
	return l, true
}

// told is l, or what it begins with, as a text.
func told(l []api.Cell) string {
	return fmt.Sprintf("%d cells %v", len(l), l[:min(len(l), 20)])
}

// wantGot is whether b is read as the cells that are named.
func wantGot(t *testing.T, ty int, b []byte, want []api.Cell) {
	t.Helper()
	if got, ok := chunk.Get(ty, b, len(want)); !ok || !slices.Equal(got, want) {
		t.Fatalf("Get(%d, % x, %d) = %s, %v, want %s", ty, b[:min(len(b), 60)], len(want), told(got), ok, told(want))
	}
}

// wantNone is whether b is not n cells of that type.
func wantNone(t *testing.T, ty int, b []byte, n int) {
	t.Helper()
	if got, ok := chunk.Get(ty, b, n); ok || len(got) != 0 {
		t.Fatalf("Get(%d, % x, %d) = %s, %v, want nothing and false", ty, b[:min(len(b), 60)], n, told(got), ok)
	}
}

// wantByRule is whether b is read as the rule says.
func wantByRule(t *testing.T, ty int, b []byte, n int) {
	t.Helper()
	want, is := readByRule(ty, b, n)
	if !is {
		wantNone(t, ty, b, n)
		return
	}
	wantGot(t, ty, b, want)
}

// drawn is n cells of that type, drawn by a rule of their place, out of so many kinds, one in so many of them null.
func drawn(ty, n, kinds, nulls int) []api.Cell {
	l := make([]api.Cell, n)
	state := uint64(n)*0x9e3779b97f4a7c15 + uint64(kinds)
	for i := range l {
		state = state*6364136223846793005 + 1442695040888963407
		x := int(state>>33) % kinds
		switch {
		case nulls > 0 && int(state>>20)%nulls == 0:
			l[i] = null()
		case ty == api.TyInt:
			l[i] = number(int64(x*x) - int64(kinds))
		case ty == api.TyBool:
			l[i] = number(int64(x % 2))
		default:
			l[i] = text(strings.Repeat("xyz"[x%3:x%3+1], x%37) + string(binary.AppendUvarint(nil, uint64(x))))
		}
	}
	return l
}

// lists is cells that may be of that type: few and many, alike and unlike, null and not, of which each way is the shortest of some.
func lists(ty int) [][]api.Cell {
	l := [][]api.Cell{nil, {}, {null()}, repeat(2, null()), repeat(8, null()), repeat(9, null()), repeat(api.MaxList, null())}
	switch ty {
	case api.TyInt:
		l = append(l, numbers(0), numbers(1), numbers(-1), numbers(7, 7, 7), numbers(5, 7, 6), numbers(math.MinInt64), numbers(math.MaxInt64), numbers(math.MinInt64, math.MaxInt64, math.MinInt64),
			numbers(63, 64, -64, -65), numbers(1000, 1001, 1002, 1003), numbers(1<<40, 1<<40+1, 1<<40), numbers(1<<40, 1<<40+70, 1<<40+10, 1<<40+90), repeat(4096, number(math.MinInt64)))
	case api.TyBool:
		l = append(l, numbers(0), numbers(1), numbers(0, 1), numbers(1, 0), numbers(1, 1, 1), numbers(0, 1, 0, 1, 0, 1, 0, 1, 1), repeat(4096, number(1)), repeat(2048, numbers(0, 1)...))
	case api.TyText:
		x, é := strings.Repeat("x", 40), strings.Repeat("é", 20)
		l = append(l, texts(""), texts("", ""), texts("a"), texts("b", "a", "b"), texts(x), texts(x, x), texts(x, x, x, x[1:]), texts("\xff\x00", "\x00", "\x80"), texts(é, é, "e"), repeat(4096, text(x)), texts("abc", "abd", "abc", "abd", "abc"))
	}
	for _, n := range []int{1, 2, 3, 7, 8, 9, 15, 16, 17, 100, 4095, 4096} {
		for _, kinds := range []int{1, 2, 5, 100, 30000} {
			for _, nulls := range []int{0, 1, 2, 20} {
				l = append(l, drawn(ty, n, kinds, nulls))
			}
		}
	}
	for at := range 18 { // one null alone at each place, and one alone that is none
		some := drawn(ty, 17, 3, 0)
		none := repeat(17, null())
		if at < 17 {
			some[at] = null()
			none[at] = drawn(ty, 1, 1, 0)[0]
		}
		l = append(l, some, none)
	}
	return l
}

func TestKnownBytes(t *testing.T) { // P10.1 to P10.3
	x := strings.Repeat("x", 40)
	for _, c := range []struct {
		ty   int
		l    []api.Cell
		want string
	}{
		{api.TyInt, numbers(7, 7, 7), "02 02 0e"},
		{api.TyInt, repeat(1, null()), "09 01"},
		{api.TyBool, repeat(1, null()), "09 01"},
		{api.TyText, repeat(1, null()), "0d 01"},
		{api.TyInt, nil, "01"},
		{api.TyBool, nil, "01"},
		{api.TyText, nil, "05"},
		{api.TyInt, numbers(0), "01 00"},
		{api.TyInt, numbers(-1), "01 01"},
		{api.TyInt, numbers(7, 7), "01 0e 0e"},
		{api.TyInt, numbers(300, 300), "02 01 d8 04"},
		{api.TyInt, numbers(300, 301), "03 d8 04 02"},
		{api.TyInt, numbers(300, 300, 300, 301, 301, 301, 300), "04 d8 04 01 38"},
		{api.TyInt, numbers(300, 300, 300), "02 02 d8 04"},
		{api.TyInt, []api.Cell{number(7), null(), number(7), number(7)}, "0a 02 02 0e"},
		{api.TyInt, []api.Cell{null(), number(-2)}, "09 01 03"},
		{api.TyInt, []api.Cell{number(1), number(2), number(3), number(4), number(5), number(6), number(7), number(8), null()}, "0c 00 01 02 03 88 c6 fa"},
		{api.TyInt, repeat(9, null()), "09 ff 01"},
		{api.TyInt, repeat(8, null()), "09 ff"},
		{api.TyBool, numbers(0), "01 00"},
		{api.TyBool, numbers(1), "01 02"},
		{api.TyBool, numbers(1, 0), "01 02 00"},
		{api.TyBool, numbers(1, 0, 1), "01 02 00 02"},
		{api.TyBool, numbers(1, 0, 1, 1), "04 00 01 0d"},
		{api.TyBool, []api.Cell{number(1), null(), number(0)}, "09 02 02 00"},
		{api.TyText, texts(""), "05 00"},
		{api.TyText, texts("a"), "05 01 61"},
		{api.TyText, texts("b", "a", "b"), "05 01 62 01 61 01 62"},
		{api.TyText, texts("abcd", "abcd"), "06 01 04 61 62 63 64 00 00"},
		{api.TyText, texts("abc", "abc"), "06 01 03 61 62 63 00 00"},
		{api.TyText, texts("ab", "ab"), "05 02 61 62 02 61 62"},
		{api.TyText, []api.Cell{null(), text("a"), null()}, "0d 05 01 61"},
		{api.TyText, []api.Cell{text("abc"), text("abc"), null()}, "0e 04 01 03 61 62 63 00 00"},
		{api.TyText, texts(x), "05 28" + strings.Repeat(" 78", 40)},
	} {
		want := unhex(t, c.want)
		if got := chunk.Put(c.ty, c.l); !bytes.Equal(got, want) {
			t.Errorf("Put(%d, %s) = % x, want %s", c.ty, told(c.l), got, c.want)
		}
		wantGot(t, c.ty, want, c.l)
		if got := chunk.Kind(want); got != int(want[0]%8) {
			t.Errorf("Kind(%s) = %d", c.want, got)
		}
	}
}

// unhex is the bytes that are told in hex.
func unhex(t *testing.T, s string) []byte {
	t.Helper()
	var b []byte
	for _, two := range strings.Fields(s) {
		var c byte
		if _, err := fmt.Sscanf(two, "%02x", &c); err != nil {
			t.Fatal(err)
		}
		b = append(b, c)
	}
	return b
}

func TestPutByRule(t *testing.T) { // P10.1, P10.2
	for _, ty := range types() {
		was := map[int]int{}
		for _, l := range lists(ty) {
			want := byRule(ty, l)
			if got := chunk.Put(ty, l); !bytes.Equal(got, want) {
				t.Fatalf("Put(%d, %s) = % x, want % x", ty, told(l), got[:min(len(got), 60)], want[:min(len(want), 60)])
			}
			was[int(want[0])]++
		}
		for _, way := range waysOf(ty) {
			if ty == api.TyBool && way == 3 { // no truths have fewer bytes as differences than one by one
				continue
			}
			if was[way] == 0 || was[way+8] == 0 {
				t.Errorf("of type %d way %d is the shortest of %d lists, and %d with nulls", ty, way, was[way], was[way+8])
			}
		}
	}
}

func TestFirstOfEqualWays(t *testing.T) { // P10.2
	for _, c := range []struct {
		ty    int
		l     []api.Cell
		same  [2]int // two ways of as many bytes, of which none is longer than the others
		first int
	}{
		{api.TyInt, nil, [2]int{1, 4}, 1},
		{api.TyInt, numbers(7), [2]int{1, 3}, 1},
		{api.TyInt, numbers(7, 7), [2]int{1, 2}, 1},
		{api.TyBool, numbers(0, 1, 0), [2]int{1, 4}, 1},
		{api.TyInt, numbers(300, 300), [2]int{2, 3}, 2},
		{api.TyInt, numbers(300, 300, 300), [2]int{2, 4}, 2},
		{api.TyInt, numbers(300, 301, 300), [2]int{3, 4}, 3},
		{api.TyText, texts("ab", "ab"), [2]int{5, 6}, 5},
		{api.TyText, texts("abc", "b", "abc"), [2]int{5, 6}, 5},
	} {
		for _, l := range [][]api.Cell{c.l, append([]api.Cell{null()}, c.l...)} {
			if a, b := inWay(c.same[0], l), inWay(c.same[1], l); len(a) != len(b) {
				t.Errorf("%s: of ways %v one is shorter: % x, % x", told(l), c.same, a, b)
			}
			if got := chunk.Kind(chunk.Put(c.ty, l)); got != c.first {
				t.Errorf("Put(%d, %s) is in way %d, want %d", c.ty, told(l), got, c.first)
			}
		}
	}
}

func TestPutNothing(t *testing.T) { // P10.2
	long := strings.Repeat("x", 41)
	for _, c := range []struct {
		ty int
		l  []api.Cell
	}{
		{api.TyInt, texts("a")},
		{api.TyInt, []api.Cell{{I: 1, S: "a"}}},
		{api.TyInt, []api.Cell{{Null: true, I: 1}}},
		{api.TyInt, []api.Cell{{Null: true, S: "a"}}},
		{api.TyBool, numbers(2)},
		{api.TyBool, numbers(-1)},
		{api.TyBool, numbers(256)},
		{api.TyBool, numbers(1<<32 + 1)},
		{api.TyBool, []api.Cell{{Null: true, I: 1}}},
		{api.TyBool, []api.Cell{{I: 1, S: "true"}}},
		{api.TyText, numbers(1)},
		{api.TyText, []api.Cell{{I: 1, S: "a"}}},
		{api.TyText, []api.Cell{{Null: true, S: "a"}}},
		{api.TyText, []api.Cell{{Null: true, I: -1}}},
		{api.TyText, texts(long)},
		{api.TyText, texts(strings.Repeat("é", 21))},
	} {
		for _, at := range []int{0, 1, 7, 40} { // whichever of them may not be
			l := drawn(c.ty, 40, 5, 4)
			l = slices.Concat(l[:at], c.l, l[at:])
			if got := chunk.Put(c.ty, l); len(got) != 0 {
				t.Errorf("Put(%d, ..%+v..) = % x, want nothing", c.ty, c.l, got)
			}
		}
		if got := chunk.Put(c.ty, c.l); len(got) != 0 {
			t.Errorf("Put(%d, %+v) = % x, want nothing", c.ty, c.l, got)
		}
	}
	for _, ty := range types() {
		for _, n := range []int{api.MaxList + 1, api.MaxList + 8, 10000} {
			for _, nulls := range []int{0, 1, 2} {
				if got := chunk.Put(ty, drawn(ty, n, 2, nulls)); len(got) != 0 {
					t.Errorf("Put(%d, of %d cells) = %d bytes, want nothing", ty, n, len(got))
				}
			}
		}
		if len(chunk.Put(ty, drawn(ty, api.MaxList, 2, 3))) == 0 {
			t.Errorf("Put(%d, of MaxList cells) is nothing", ty)
		}
	}
	for _, ty := range noTypes() {
		for _, l := range [][]api.Cell{nil, {}, numbers(0), numbers(1, 1), texts("a"), repeat(1, null()), {null(), number(0)}} {
			if got := chunk.Put(ty, l); len(got) != 0 {
				t.Errorf("Put(%d, %s) = % x, want nothing", ty, told(l), got)
			}
		}
	}
}

func TestPutIsGot(t *testing.T) { // P10.4
	for _, ty := range types() {
		for _, l := range lists(ty) {
			b := chunk.Put(ty, l)
			wantGot(t, ty, b, l)
			for _, way := range waysOf(ty) {
				if other := inWay(way, l); len(other) < len(b) {
					t.Fatalf("%s: %d bytes, in way %d %d", told(l), len(b), way, len(other))
				}
			}
		}
	}
}

func TestGetWhicheverWay(t *testing.T) { // P10.3
	for _, ty := range types() {
		for _, l := range lists(ty) {
			for way := 1; way <= 6; way++ {
				b := inWay(way, l)
				if slices.Contains(waysOf(ty), way) {
					wantGot(t, ty, b, l)
				} else {
					wantNone(t, ty, b, len(l))
				}
			}
		}
	}
}

func TestGetByteTooManyOrFew(t *testing.T) { // P10.3
	for _, ty := range types() {
		for _, l := range lists(ty) {
			if len(l) > 100 {
				continue
			}
			for _, way := range waysOf(ty) {
				b := inWay(way, l)
				for size := range b {
					wantByRule(t, ty, b[:size], len(l))
				}
				wantNone(t, ty, b[:len(b)-1], len(l))
				for _, c := range []byte{0, 1, 0x80, 0xff} {
					wantNone(t, ty, append(slices.Clone(b), c), len(l))
				}
				for n := max(0, len(l)-20); n < len(l)+20; n++ {
					wantByRule(t, ty, b, n)
				}
			}
		}
	}
	for _, ty := range append(types(), noTypes()...) {
		for _, n := range []int{0, 1, 8, api.MaxList} {
			wantNone(t, ty, nil, n)
			wantNone(t, ty, []byte{}, n)
		}
	}
}

func TestGetNullsThatAreNone(t *testing.T) { // P10.3
	for _, ty := range types() {
		for _, n := range []int{0, 1, 2, 7, 8, 9, 16, 17, 4096} {
			l := drawn(ty, n, 3, 0)
			for _, way := range waysOf(ty) {
				b := inWay(way, l)
				with := slices.Concat([]byte{b[0] + 8}, make([]byte, (n+7)/8), b[1:])
				wantNone(t, ty, with, n)
				wantByRule(t, ty, append([]byte{b[0] + 8}, b[1:]...), n)
				if n%8 > 0 { // a null behind the last cell
					with[1+n/8] = 0x80
					wantNone(t, ty, with, n)
					with[1+n/8] = 0x81 // and one ahead of it, which leaves a cell too many
					wantNone(t, ty, with, n)
				}
			}
		}
		b := chunk.Put(ty, repeat(3, null())) // no null is behind the third one
		for n := range 30 {
			if n != 3 {
				wantNone(t, ty, b, n)
			}
		}
	}
}

func TestGetCellsThatMayNotBe(t *testing.T) { // P10.3
	for _, l := range [][]api.Cell{numbers(2), numbers(-1), numbers(1, 0, 2), numbers(1, 256), numbers(-1, 0), numbers(math.MinInt64, 1), numbers(1, 1<<32), {null(), number(2)}, {number(0), null(), number(3)}} {
		for _, way := range waysOf(api.TyBool) {
			wantNone(t, api.TyBool, inWay(way, l), len(l))
			wantGot(t, api.TyInt, inWay(way, l), l)
		}
	}
	for _, size := range []int{41, 42, 100, 128, 300, 1 << 14} {
		long := strings.Repeat("x", size)
		for _, l := range [][]api.Cell{texts(long), texts("a", long), texts(long, long), {null(), text(long)}} {
			for _, way := range waysOf(api.TyText) {
				wantNone(t, api.TyText, inWay(way, l), len(l))
			}
		}
	}
}

func TestGetCounts(t *testing.T) { // P10.3
	for _, ty := range types() {
		for _, l := range lists(ty) {
			for _, way := range waysOf(ty) {
				b := inWay(way, l)
				for _, n := range noCounts() {
					wantNone(t, ty, b, n)
				}
			}
		}
		for _, n := range []int{4097, 4098, 5000} { // also of as many as there are
			for _, way := range waysOf(ty) {
				for _, nulls := range []int{0, 1, 2} {
					wantNone(t, ty, inWay(way, drawn(ty, n, 3, nulls)), n)
				}
			}
		}
	}
	for _, ty := range append(types(), noTypes()...) {
		for _, n := range noCounts() {
			for first := range 256 {
				wantNone(t, ty, []byte{byte(first)}, n)
				wantNone(t, ty, []byte{byte(first), 1}, n)
			}
			wantNone(t, ty, nil, n)
		}
	}
}

func TestGetNoType(t *testing.T) { // P10.3
	for _, ty := range noTypes() {
		for way := range 256 {
			for n := range 4 {
				wantNone(t, ty, []byte{byte(way)}, n)
				wantNone(t, ty, []byte{byte(way), 0}, n)
				wantNone(t, ty, []byte{byte(way), 1}, n)
				wantNone(t, ty, []byte{byte(way), 1, 0}, n)
			}
		}
	}
}

func TestGetAllShort(t *testing.T) { // P10.3: each list of up to two bytes, and some of more
	for _, ty := range types() {
		for n := range 18 {
			for first := range 256 {
				wantByRule(t, ty, []byte{byte(first)}, n)
				for second := range 256 {
					wantByRule(t, ty, []byte{byte(first), byte(second)}, n)
				}
			}
		}
		some := []byte{0, 1, 2, 3, 4, 5, 7, 8, 0x28, 0x29, 'a', 0x7f, 0x80, 0x81, 0xff}
		for n := range 10 {
			for _, first := range []byte{1, 2, 3, 4, 5, 6, 9, 10, 11, 12, 13, 14} {
				eachOf(some, 3, func(rest []byte) {
					wantByRule(t, ty, append([]byte{first}, rest...), n)
				})
			}
		}
	}
}

// eachOf tells all lists of up to so many of these bytes.
func eachOf(of []byte, most int, tell func([]byte)) {
	l := make([]byte, 0, most)
	var on func()
	on = func() {
		tell(l)
		if len(l) == most {
			return
		}
		for _, c := range of {
			l = append(l, c)
			on()
			l = l[:len(l)-1]
		}
	}
	on()
}

func TestGetTurnedBytes(t *testing.T) { // P10.3
	for _, ty := range types() {
		for _, l := range lists(ty) {
			if len(l) > 17 {
				continue
			}
			for _, way := range waysOf(ty) {
				b := inWay(way, l)
				for at := range b {
					for _, by := range []byte{1, 2, 4, 8, 0x10, 0x20, 0x40, 0x80, 0xff} {
						other := slices.Clone(b)
						other[at] ^= by
						wantByRule(t, ty, other, len(l))
					}
				}
			}
		}
	}
}

func TestKind(t *testing.T) { // P10.3
	for first := range 256 {
		want := 0
		switch {
		case first >= 1 && first <= 6:
			want = first
		case first >= 9 && first <= 14:
			want = first - 8
		}
		for _, rest := range [][]byte{nil, {0}, {1}, {7, 1}, make([]byte, 5000)} {
			if got := chunk.Kind(append([]byte{byte(first)}, rest...)); got != want {
				t.Errorf("Kind(%02x and %d more) = %d, want %d", first, len(rest), got, want)
			}
		}
	}
	if chunk.Kind(nil) != 0 || chunk.Kind([]byte{}) != 0 {
		t.Error("Kind of nothing is not 0")
	}
}

func TestNothingSharedOrChanged(t *testing.T) { // rules 3 and 4
	for _, ty := range types() {
		for _, l := range lists(ty) {
			if len(l) > 100 {
				continue
			}
			was := slices.Clone(l)
			b := chunk.Put(ty, l)
			again := chunk.Put(ty, l)
			if !slices.Equal(l, was) || !bytes.Equal(b, again) {
				t.Fatalf("Put changed %s, or says it otherwise", told(was))
			}
			got, _ := chunk.Get(ty, b, len(l))
			for i := range again { // what was answered once is nobody else's
				again[i] ^= 0xff
			}
			if !bytes.Equal(b, chunk.Put(ty, was)) {
				t.Fatalf("Put(%d, %s) shares its bytes", ty, told(l))
			}
			for i := range b {
				b[i] ^= 0xff
			}
			if !slices.Equal(got, was) {
				t.Fatalf("Get(%d, .., %d) shares its bytes", ty, len(was))
			}
			for i := range b {
				b[i] ^= 0xff
			}
			kept := slices.Clone(b)
			for i := range got {
				got[i] = api.Cell{I: 99, S: "other"}
			}
			if next, ok := chunk.Get(ty, b, len(was)); !ok || !slices.Equal(next, was) || !bytes.Equal(b, kept) {
				t.Fatalf("Get(%d, .., %d) shares its cells, or changed its bytes", ty, len(was))
			}
		}
	}
}
