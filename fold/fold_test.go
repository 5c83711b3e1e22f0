package fold_test

import (
	"math"
	"strings"
	"testing"

	"firkin/api"
	"firkin/cell"
	"firkin/fold"
)

var null = api.Cell{Null: true}

// The cells of a number or a truth, and of a text.
func n(i int64) api.Cell  { return api.Cell{I: i} }
func s(t string) api.Cell { return api.Cell{S: t} }

// x is a text of so many bytes.
func x(size int) string { return strings.Repeat("x", size) }

// strange is numbers that are no kinds of aggregates.
func strange() []int {
	return []int{0, 6, 7, -1, -5, 255, 256, 257, 1 << 16, 1<<32 + 1, 1<<32 + 3, 1<<32 + 4, math.MaxInt, math.MinInt, math.MinInt + 1}
}

// of is the state of some cells, added one by one.
func of(cells ...api.Cell) fold.State {
	st := fold.New()
	for _, c := range cells {
		st = st.Add(c)
	}
	return st
}

// full is the cells that are not null.
func full(cells []api.Cell) []api.Cell {
	var l []api.Cell
	for _, c := range cells {
		if !c.Null {
			l = append(l, c)
		}
	}
	return l
}

// total is the sum of the cells' numbers, by 64 bits without a sign.
func total(cells []api.Cell) int64 {
	var sum uint64
	for _, c := range cells {
		sum += uint64(c.I)
	}
	return int64(sum)
}

// first is the cell of some, one at least, that is ahead of all that are not the same.
func first(cells []api.Cell, ahead func(a, b api.Cell) bool) api.Cell {
	for _, c := range cells {
		ok := true
		for _, d := range cells {
			ok = ok && (c == d || ahead(c, d))
		}
		if ok {
			return c
		}
	}
	return api.Cell{S: "none is ahead"}
}

// less is whether a is ahead of b, of cells that are not null: by number, then by bytes.
func less(a, b api.Cell) bool {
	if a.I != b.I {
		return a.I < b.I
	}
	return strings.Compare(a.S, b.S) < 0
}

// more is whether a is behind b.
func more(a, b api.Cell) bool { return less(b, a) }

// want is what each kind of aggregate is of cells, by the chapter's words.
func want(cells []api.Cell) [6]api.Cell {
	l := full(cells)
	w := [6]api.Cell{api.AgCount: n(int64(len(cells))), api.AgHas: n(int64(len(l))), api.AgSum: null, api.AgMin: null, api.AgMax: null}
	if len(l) > 0 {
		w[api.AgSum], w[api.AgMin], w[api.AgMax] = n(total(l)), first(l, less), first(l, more)
	}
	return w
}

// told is what each kind of aggregate is of a state.
func told(st fold.State) [6]api.Cell {
	var l [6]api.Cell
	for op := api.AgCount; op <= api.AgMax; op++ {
		l[op] = st.Value(op)
	}
	return l
}

// is wants a state to be that of these cells.
func is(t *testing.T, what string, st fold.State, cells ...api.Cell) {
	t.Helper()
	if got, w := told(st), want(cells); got != w {
		t.Errorf("%s, of %+v: the values are %+v, want %+v", what, cells, got[1:], w[1:])
	}
	for _, op := range strange() {
		if got := st.Value(op); got != (api.Cell{}) {
			t.Errorf("%s, of %+v: Value(%d) = %+v, and there is no such op", what, cells, op, got)
		}
	}
}

// values wants the five values of a state to be these.
func values(t *testing.T, st fold.State, w ...api.Cell) {
	t.Helper()
	for op := api.AgCount; op <= api.AgMax; op++ {
		if got := st.Value(op); got != w[op-1] {
			t.Errorf("Value(%d) = %+v, want %+v", op, got, w[op-1])
		}
	}
}

func TestExample(t *testing.T) { // P22.1, P22.2
	values(t, of(n(5), null, n(7)), n(3), n(2), n(12), n(5), n(7))
}

func TestNew(t *testing.T) { // P22.1: of no cells
	is(t, "New()", fold.New())
	values(t, fold.New(), n(0), n(0), null, null, null)
	is(t, "New() twice, joined", fold.Join(fold.New(), fold.New()))
	values(t, fold.Join(fold.New(), fold.New()), n(0), n(0), null, null, null)
}

func TestZeroState(t *testing.T) { // P22.1, rule 1: a state that New did not make
	var zero fold.State
	is(t, "the zero state", zero)
	is(t, "the zero state, and one", zero.Add(n(-3)), n(-3))
	is(t, "the zero state, and null", zero.Add(null), null)
	is(t, "the zero state ahead", fold.Join(zero, of(n(4), null)), n(4), null)
	is(t, "the zero state behind", fold.Join(of(n(-4), null), zero), n(-4), null)
}

func TestAdd(t *testing.T) { // P22.1: with one more
	st, cells := fold.New(), []api.Cell(nil)
	for _, c := range []api.Cell{null, n(3), n(3), null, n(-7), n(9), n(0), null, n(4), n(-8), n(10)} {
		st, cells = st.Add(c), append(cells, c)
		is(t, "Add", st, cells...)
	}
}

func TestAddLeavesTheStateAsItWas(t *testing.T) { // P22.1, rule 3
	st := of(n(5), null)
	st.Add(n(1))
	st.Add(null)
	fold.Join(st, of(n(9), s("x")))
	fold.Join(of(n(-9)), st)
	is(t, "behind calls whose answers are left", st, n(5), null)
	low, high := st.Add(n(1)), st.Add(n(9))
	is(t, "one way on", low, n(5), null, n(1))
	is(t, "another way on", high, n(5), null, n(9))
	is(t, "itself", st, n(5), null)
}

func TestJoin(t *testing.T) { // P22.1: of both's cells
	lists := [][]api.Cell{nil, {null}, {null, null}, {n(1)}, {n(-1)}, {n(0)}, {n(5), null}, {n(-5), n(5)}, {null, n(3), n(4)}, {n(6), n(7)}, {n(-9), null, n(9)}, {s("a")}, {s(""), s("b"), null}}
	for _, a := range lists {
		for _, b := range lists {
			is(t, "Join", fold.Join(of(a...), of(b...)), append(append([]api.Cell(nil), a...), b...)...)
		}
	}
}

func TestJoinWithItself(t *testing.T) { // P22.1: a state's cells twice
	st := of(n(3), null, n(-4))
	is(t, "twice", fold.Join(st, st), n(3), null, n(-4), n(3), null, n(-4))
	for range 60 {
		st = fold.Join(st, st)
	}
	values(t, st, n(3<<60), n(2<<60), n(-1<<60), n(-4), n(3))
}

func TestJoinPastAllNumbers(t *testing.T) { // P22.2: what is null is told by the cells, not by how many int64 can tell
	some, none := of(n(3)), of(null)
	for range 64 {
		some, none = fold.Join(some, some), fold.Join(none, none)
	}
	for op, want := range map[int]api.Cell{api.AgSum: n(0), api.AgMin: n(3), api.AgMax: n(3)} {
		if got := some.Value(op); got != want {
			t.Errorf("of 3, 2^64 times: Value(%d) = %+v, want %+v", op, got, want)
		}
		if got := none.Value(op); got != null {
			t.Errorf("of null, 2^64 times: Value(%d) = %+v", op, got)
		}
	}
}

func TestAllNull(t *testing.T) { // P22.2: the sum, the least and the greatest are null, if all are
	for size := range 5 {
		cells := make([]api.Cell, size)
		for i := range cells {
			cells[i] = null
		}
		values(t, of(cells...), n(int64(size)), n(0), null, null, null)
		values(t, of(append(cells, n(0))...), n(int64(size)+1), n(1), n(0), n(0), n(0))
		values(t, of(append([]api.Cell{s("")}, cells...)...), n(int64(size)+1), n(1), n(0), s(""), s(""))
	}
}

func TestSumWraps(t *testing.T) { // P22.2: round, as int64 does
	for _, c := range []struct {
		cells []api.Cell
		sum   int64
	}{
		{[]api.Cell{n(math.MaxInt64), n(1)}, math.MinInt64},
		{[]api.Cell{n(math.MaxInt64), n(math.MaxInt64)}, -2},
		{[]api.Cell{n(math.MinInt64), n(-1)}, math.MaxInt64},
		{[]api.Cell{n(math.MinInt64), n(math.MinInt64)}, 0},
		{[]api.Cell{n(math.MinInt64), n(math.MaxInt64)}, -1},
		{[]api.Cell{n(math.MaxInt64), n(1), n(-1)}, math.MaxInt64},
		{[]api.Cell{n(1 << 53), n(1)}, 1<<53 + 1},
		{[]api.Cell{n(1 << 62), n(1 << 62), null, n(1 << 62), n(1 << 62)}, 0},
		{[]api.Cell{n(3 << 32), n(5 << 32), n(-1)}, 8<<32 - 1},
	} {
		if got := of(c.cells...).Value(api.AgSum); got != n(c.sum) {
			t.Errorf("the sum of %+v is %+v, want %d", c.cells, got, c.sum)
		}
		is(t, "great numbers", of(c.cells...), c.cells...)
	}
}

func TestLeastAndGreatest(t *testing.T) { // P22.2: by the order of cells, from whichever side
	for _, rising := range [][]api.Cell{
		{n(math.MinInt64), n(math.MinInt64 + 1), n(-1 << 32), n(-10), n(-9), n(-1), n(0), n(1), n(9), n(10), n(1<<32 + 1), n(math.MaxInt64 - 1), n(math.MaxInt64)},
		{n(0), n(1)},
		{s(""), s("\x00"), s("10"), s("9"), s("A"), s("a"), s("a\x00"), s("ab"), s("b"), s(x(39)), s(x(40)), s("ä"), s("\xff")},
	} {
		for i, a := range rising {
			values(t, of(a), n(1), n(1), n(a.I), a, a)
			for _, b := range rising[i:] {
				for _, cells := range [][]api.Cell{{a, b}, {b, a}, {null, b, a}, {a, null, b}, {b, a, null}, {a, b, a}, {b, a, b}} {
					st := of(cells...)
					if low, high := st.Value(api.AgMin), st.Value(api.AgMax); low != a || high != b {
						t.Errorf("of %+v: from %+v to %+v, want %+v and %+v", cells, low, high, a, b)
					}
				}
			}
		}
	}
}

func TestTextsAndTruths(t *testing.T) { // P22.2: of each type
	values(t, of(s("b"), null, s("a"), s("c")), n(4), n(3), n(0), s("a"), s("c"))
	values(t, of(n(1), n(0), null, n(1)), n(4), n(3), n(2), n(0), n(1))
	values(t, of(n(1), n(1)), n(2), n(2), n(2), n(1), n(1))
}

func TestCellsThatAreOfNoType(t *testing.T) { // P22.2, rule 1: null is what says so; the order is by all fields
	odd := []api.Cell{{Null: true, I: 9, S: "z"}, {Null: true, I: -9}, {Null: true, S: ""}}
	values(t, of(odd...), n(3), n(0), null, null, null)
	values(t, of(append(odd, n(4))...), n(4), n(1), n(4), n(4), n(4))
	values(t, fold.Join(of(odd...), of(n(4), odd[0])), n(5), n(1), n(4), n(4), n(4))
	a, b, c := api.Cell{I: 1, S: "b"}, api.Cell{I: 2, S: "a"}, api.Cell{I: 1, S: "c"}
	values(t, of(b, c, a), n(3), n(3), n(4), a, b)
	values(t, of(c, a), n(2), n(2), n(2), a, c)
	great := s(x(1 << 20))
	values(t, of(great, s("a"), s("y")), n(3), n(3), n(0), s("a"), s("y"))
	values(t, of(s("x"), great), n(2), n(2), n(0), s("x"), great)
}

func TestNoSuchOp(t *testing.T) { // P22.2: the zero cell, and no type
	for _, op := range strange() {
		for _, st := range []fold.State{{}, fold.New(), of(null), of(n(5)), of(n(5), null, n(7))} {
			if got := st.Value(op); got != (api.Cell{}) {
				t.Errorf("Value(%d) = %+v", op, got)
			}
		}
		for _, ty := range []int{api.TyInt, api.TyBool, api.TyText, 0, 9} {
			if got := fold.Type(op, ty); got != 0 {
				t.Errorf("Type(%d, %d) = %d", op, ty, got)
			}
		}
	}
}

func TestType(t *testing.T) { // P22.2
	for _, ty := range []int{api.TyInt, api.TyBool, api.TyText, 0, 4, -1, math.MaxInt, math.MinInt} {
		for op, want := range map[int]int{api.AgCount: api.TyInt, api.AgHas: api.TyInt, api.AgSum: api.TyInt, api.AgMin: ty, api.AgMax: ty} {
			if got := fold.Type(op, ty); got != want {
				t.Errorf("Type(%d, %d) = %d, want %d", op, ty, got, want)
			}
		}
	}
}

func TestTypeIsThatOfTheValue(t *testing.T) { // P22.2: the value may be a cell of the type, null or not
	for ty, cells := range map[int][]api.Cell{
		api.TyInt:  {n(5), null, n(-7), n(math.MaxInt64)},
		api.TyBool: {n(1), n(0), null, n(1), n(1)},
		api.TyText: {s("b"), null, s(""), s(x(40))},
	} {
		for size := range len(cells) + 1 {
			st := of(cells[:size]...)
			for op := api.AgCount; op <= api.AgMax; op++ {
				if v := st.Value(op); !cell.May(fold.Type(op, ty), true, v) {
					t.Errorf("Value(%d) of %+v is %+v, which is not of type %d", op, cells[:size], v, fold.Type(op, ty))
				}
			}
		}
	}
}

// parted calls see with the state of cells, parted and joined in every way.
func parted(cells []api.Cell, see func(fold.State)) {
	if len(cells) == 0 {
		see(fold.New())
	}
	if len(cells) == 1 {
		see(of(cells[0]))
	}
	for at := 1; at < len(cells); at++ {
		parted(cells[:at], func(a fold.State) {
			parted(cells[at:], func(b fold.State) { see(fold.Join(a, b)) })
		})
	}
}

// shuffled calls see with cells in every order.
func shuffled(cells []api.Cell, at int, see func()) {
	if at == len(cells) {
		see()
		return
	}
	for i := at; i < len(cells); i++ {
		cells[at], cells[i] = cells[i], cells[at]
		shuffled(cells, at+1, see)
		cells[at], cells[i] = cells[i], cells[at]
	}
}

func TestOrderAndParts(t *testing.T) { // P22.3
	for _, cells := range [][]api.Cell{
		{},
		{n(1)},
		{null, n(2)},
		{n(5), null, n(7)},
		{null, null, n(-4), n(4)},
		{s("a"), s("b"), null, s("a"), s("")},
		{n(math.MaxInt64), n(1), n(math.MinInt64), null, n(-1)},
	} {
		shuffled(cells, 0, func() {
			is(t, "added", of(cells...), cells...)
			parted(cells, func(st fold.State) { is(t, "joined", st, cells...) })
		})
	}
}

type source uint32

// below is the next number, below n.
func (d *source) below(n int) int {
	*d = *d*1664525 + 1013904223
	return int(*d>>8) % n
}

// cell draws a cell of that type, of few values.
func (d *source) cell(ty int) api.Cell {
	if d.below(4) == 0 {
		return null
	}
	switch ty {
	case api.TyInt:
		return n([]int64{math.MinInt64, -1 << 40, -7, -1, 0, 1, 7, 1 << 40, math.MaxInt64}[d.below(9)])
	case api.TyBool:
		return n(int64(d.below(2)))
	}
	return s([]string{"", "a", "ab", "b", "B", "ä", "\xff", x(40)}[d.below(8)])
}

// state is that of cells, parted and joined as is drawn.
func (d *source) state(cells []api.Cell) fold.State {
	if len(cells) < 2 || d.below(4) == 0 {
		return of(cells...)
	}
	at := d.below(len(cells) + 1)
	a, b := d.state(cells[:at/2]), d.state(cells[at/2:])
	if d.below(2) == 0 {
		a, b = b, a
	}
	return fold.Join(a, b)
}

func TestDrawn(t *testing.T) { // P22.1 to P22.3
	d := source(22)
	for range 3000 {
		ty := 1 + d.below(3)
		cells := make([]api.Cell, d.below(20))
		for i := range cells {
			cells[i] = d.cell(ty)
		}
		kept := append([]api.Cell(nil), cells...)
		is(t, "drawn", d.state(cells), kept...)
		is(t, "drawn, once more", d.state(cells), kept...)
	}
}

func TestMany(t *testing.T) { // rule 1: lists of MaxList and more
	st := fold.New()
	for i := range 100000 {
		if st = st.Add(n(int64(i))); i%4 == 0 {
			st = st.Add(null)
		}
	}
	values(t, st, n(125000), n(100000), n(4999950000), n(0), n(99999))
}

func TestMethodsAsValues(t *testing.T) { // P22.1, P22.2: as function values, of the state that was there
	st := of(n(5), null)
	add, value := st.Add, st.Value
	st = st.Add(n(7))
	is(t, "the value of a method", add(n(1)), n(5), null, n(1))
	if got := value(api.AgCount); got != n(2) {
		t.Errorf("Value of the state as it was = %+v", got)
	}
	is(t, "State.Add", fold.State.Add(st, n(9)), n(5), null, n(7), n(9))
	if got := fold.State.Value(st, api.AgSum); got != n(12) {
		t.Errorf("State.Value = %+v", got)
	}
}
