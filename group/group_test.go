package group_test

import (
	"cmp"
	"math"
	"reflect"
	"slices"
	"strings"
	"testing"

	"firkin/api"
	"firkin/cell"
	"firkin/eval"
	"firkin/group"
	"firkin/parse"
	"firkin/query"
	"firkin/schema"
)

var null = api.Cell{Null: true}

// The cells of a number or a truth, and of a text.
func n(i int64) api.Cell  { return api.Cell{I: i} }
func s(t string) api.Cell { return api.Cell{S: t} }

// x is a text of so many bytes.
func x(size int) string { return strings.Repeat("x", size) }

// row and table are lists of cells, and of rows.
func row(cells ...api.Cell) []api.Cell      { return cells }
func table(rows ...[]api.Cell) [][]api.Cell { return rows }

// columns are those that the tests' rows are of: a number, a truth, a text, and each once more, null.
func columns() []api.Col {
	return []api.Col{
		{Name: "a", Type: api.TyInt}, {Name: "b", Type: api.TyBool}, {Name: "c", Type: api.TyText},
		{Name: "d", Type: api.TyInt, Null: true}, {Name: "e", Type: api.TyBool, Null: true}, {Name: "f", Type: api.TyText, Null: true},
	}
}

// rows are some of columns.
func rows() [][]api.Cell {
	return table(
		row(n(5), n(1), s("x"), null, n(0), s("B")),
		row(n(-7), n(0), s("y"), n(3), null, null),
		row(n(5), n(0), s("x"), n(-4), n(1), s("")),
		row(n(9), n(1), s(""), n(3), n(0), s("a")),
		row(n(-7), n(1), s("x"), null, null, s("B")),
	)
}

// plainRow is a row of columns without null, and nullRow one with all the nulls that may be.
func plainRow() []api.Cell { return row(n(5), n(1), s("x"), n(5), n(1), s("x")) }
func nullRow() []api.Cell  { return row(n(5), n(1), s("x"), null, null, null) }

// asked is the query that a text is.
func asked(t *testing.T, text string) api.Query {
	t.Helper()
	q, _, err := parse.Query(text)
	if err != api.OK {
		t.Fatalf("%q has error %d", text, err)
	}
	return q
}

// alike is whether both answers have the same rows.
func alike(a, b [][]api.Cell) bool {
	return slices.EqualFunc(a, b, slices.Equal[[]api.Cell])
}

// want is whether Answer answers those rows to the text.
func want(t *testing.T, cols []api.Col, text string, rows, want [][]api.Cell) {
	t.Helper()
	if got, err := group.Answer(cols, asked(t, text), rows); !alike(got, want) || err != api.OK {
		t.Errorf("%s: %+v and error %d, want %+v", text, got, err, want)
	}
}

// wantError is whether Answer answers that error and nothing else.
func wantError(t *testing.T, cols []api.Col, q api.Query, rows [][]api.Cell, want api.Errno) {
	t.Helper()
	if got, err := group.Answer(cols, q, rows); len(got) != 0 || err != want {
		t.Errorf("Answer(%+v, %+v, %+v) = %+v and error %d, want %d", cols, q, rows, got, err, want)
	}
}

// P23.1: the examples of the chapter, and of the document.
func TestExamples(t *testing.T) {
	cols := []api.Col{{Name: "a", Type: api.TyInt}, {Name: "b", Type: api.TyText, Null: true}}
	for _, none := range [][][]api.Cell{nil, {}} {
		want(t, cols, "select count(*) from t", none, table(row(n(0))))
		want(t, cols, "select count(*) from t group by b", none, nil)
	}
	two := table(row(n(1), s("x")), row(n(2), null))
	want(t, cols, "select * from t where a > 1", two, table(row(n(2), null)))
	want(t, cols, "select count(*), sum(a) from t group by b", two, table(row(null, n(1), n(2)), row(s("x"), n(1), n(1))))
}

// P23.1: of each row the cells of Cols, in their order.
func TestPlain(t *testing.T) {
	for _, c := range []struct {
		text string
		want [][]api.Cell
	}{
		{"select * from t", rows()},
		{"select a from t", table(row(n(5)), row(n(-7)), row(n(5)), row(n(9)), row(n(-7)))},
		{"select f, a from t", table(row(s("B"), n(5)), row(null, n(-7)), row(s(""), n(5)), row(s("a"), n(9)), row(s("B"), n(-7)))},
		{"select a, b, c, d, e, f from t", rows()},
		{"select d, b from t where a = 5", table(row(null, n(1)), row(n(-4), n(0)))},
		{"select c from t where a < 0 and b = true", table(row(s("x")))},
		{"select * from t where d = 3", table(rows()[1], rows()[3])},
		{"select * from t where not d = 3", table(rows()[2])},
		{"select e from t where e is null", table(row(null), row(null))},
		{"select * from t where a > 9", nil},
		{"select b from t where f like 'b'", table(row(n(1)), row(n(1)))},
	} {
		want(t, columns(), c.text, rows(), c.want)
	}
	f, e, d, c, b, a := columns()[5], columns()[4], columns()[3], columns()[2], columns()[1], columns()[0]
	turned := []api.Col{f, e, d, c, b, a}
	var back [][]api.Cell
	for _, r := range rows() {
		slices.Reverse(r)
		back = append(back, r)
	}
	want(t, turned, "select * from t", back, back)
	want(t, turned, "select a, b, c, d, e, f from t", back, rows())
}

// P23.1: of aggregates alone there is one row, whatever the rows are.
func TestTotals(t *testing.T) {
	for _, c := range []struct {
		text string
		want []api.Cell
	}{
		{"select count(*) from t", row(n(5))},
		{"select has(a), has(d), has(e), has(f) from t", row(n(5), n(3), n(3), n(4))},
		{"select sum(d), sum(a), sum(d), count(*) from t", row(n(2), n(5), n(2), n(5))},
		{"select min(a), max(a), min(c), max(c) from t", row(n(-7), n(9), s(""), s("y"))},
		{"select min(b), max(b), min(e), max(e) from t", row(n(0), n(1), n(0), n(1))},
		{"select min(d), max(d), min(f), max(f) from t", row(n(-4), n(3), s(""), s("a"))},
		{"select count(*), has(d), sum(d), max(c) from t where a = 5", row(n(2), n(1), n(-4), s("x"))},
		{"select count(*), has(e), min(e), max(e) from t where a = -7", row(n(2), n(0), null, null)},
		{"select count(*), has(a), sum(a), min(f) from t where a = 4", row(n(0), n(0), null, null)},
		{"select max(b), min(c), sum(d), has(e) from t where d > 100", row(null, null, null, n(0))},
		{"select count(*) from t where d = 3", row(n(2))},
		{"select count(*) from t where not d = 3", row(n(1))},
	} {
		want(t, columns(), c.text, rows(), table(c.want))
	}
	for _, none := range [][][]api.Cell{nil, {}} {
		want(t, columns(), "select count(*), has(a), sum(a), max(a) from t", none, table(row(n(0), n(0), null, null)))
	}
}

// P23.1: a sum wraps round, and the count counts rows whose first cell is null.
func TestTotalsAtTheEdges(t *testing.T) {
	cols := []api.Col{{Name: "a", Type: api.TyInt, Null: true}, {Name: "b", Type: api.TyBool}}
	far := table(row(n(math.MaxInt64), n(0)), row(n(1), n(0)), row(null, n(1)), row(null, n(1)))
	want(t, cols, "select sum(a), count(*), has(a), min(a) from t", far, table(row(n(math.MinInt64), n(4), n(2), n(1))))
	want(t, cols, "select count(*), sum(a) from t group by b", far, table(row(n(0), n(2), n(math.MinInt64)), row(n(1), n(2), null)))
	want(t, cols, "select count(*) from t group by a", far, table(row(null, n(2)), row(n(1), n(1)), row(n(math.MaxInt64), n(1))))
}

// P23.1: of each of the unlike cells, rising, a row.
func TestGroups(t *testing.T) {
	for _, c := range []struct {
		text string
		want [][]api.Cell
	}{
		{"select count(*) from t group by a", table(row(n(-7), n(2)), row(n(5), n(2)), row(n(9), n(1)))},
		{"select count(*) from t group by b", table(row(n(0), n(2)), row(n(1), n(3)))},
		{"select count(*) from t group by c", table(row(s(""), n(1)), row(s("x"), n(3)), row(s("y"), n(1)))},
		{"select count(*) from t group by d", table(row(null, n(2)), row(n(-4), n(1)), row(n(3), n(2)))},
		{"select count(*) from t group by e", table(row(null, n(2)), row(n(0), n(2)), row(n(1), n(1)))},
		{"select count(*) from t group by f", table(row(null, n(1)), row(s(""), n(1)), row(s("B"), n(2)), row(s("a"), n(1)))},
		{"select sum(a), has(d), max(f), min(e) from t group by c", table(row(s(""), n(9), n(1), s("a"), n(0)), row(s("x"), n(3), n(1), s("B"), n(0)), row(s("y"), n(-7), n(1), null, null))},
		{"select sum(d), has(d), min(d), max(d) from t group by d", table(row(null, null, n(0), null, null), row(n(-4), n(-4), n(1), n(-4), n(-4)), row(n(3), n(6), n(2), n(3), n(3)))},
		{"select max(b) from t where not a = 5 group by a", table(row(n(-7), n(1)), row(n(9), n(1)))},
		{"select count(*) from t where d is null group by d", table(row(null, n(2)))},
		{"select count(*) from t where d < 3 group by f", table(row(s(""), n(1)))},
		{"select count(*) from t where a > 9 group by f", nil},
	} {
		want(t, columns(), c.text, rows(), c.want)
	}
}

// P23.1: groups are told apart by all of their cells, and rise by their size, byte by byte.
func TestOrderOfGroups(t *testing.T) {
	numbers := []int64{math.MinInt64, math.MinInt64 + 1, -1 << 32, -11, -10, -1, 0, 1, 2, 9, 10, 1<<32 + 1, math.MaxInt64 - 1, math.MaxInt64}
	texts := []string{"", "\x00", "\x00\x00", " ", "'", "10", "9", "A", "B", "Z", "a", "a\x00", "aa", "ab", "b", x(39), x(40), "z", "~", "\x7f", "\x80", "ä", "é", "\U0001F600", "\xff"}
	cols := []api.Col{{Name: "a", Type: api.TyInt, Null: true}, {Name: "b", Type: api.TyText, Null: true}}
	var list, ofNumbers, ofTexts [][]api.Cell
	ofNumbers, ofTexts = table(row(null, n(25))), table(row(null, n(14)))
	for _, i := range numbers {
		list = append(list, row(n(i), null))
		ofNumbers = append(ofNumbers, row(n(i), n(1)))
	}
	for _, text := range texts {
		list = append(list, row(null, s(text)))
		ofTexts = append(ofTexts, row(s(text), n(1)))
	}
	for range 20 {
		want(t, cols, "select count(*) from t group by a", list, ofNumbers)
		want(t, cols, "select count(*) from t group by b", list, ofTexts)
		list = append(list[7:], list[:7]...)
	}
}

// P23.1: of as many groups as there are rows, and of one of them all.
func TestManyRows(t *testing.T) {
	const many = 1 << 17
	var list [][]api.Cell
	var own [][]api.Cell
	for i := range int64(many) {
		list = append(list, row(n((many-i)*31), n(i%2), s(""), null, null, null))
		own = append(own, row(n((i+1)*31), n(1), n(1-i%2), n((i+1)*31)))
	}
	want(t, columns(), "select count(*), max(b), min(a) from t group by a", list, own)
	want(t, columns(), "select count(*), sum(a) from t group by c", list, table(row(s(""), n(many), n(31*many*(many+1)/2))))
	want(t, columns(), "select count(*), sum(a), has(f), max(a) from t", list, table(row(n(many), n(31*many*(many+1)/2), n(0), n(31*many))))
	want(t, columns(), "select * from t", list, list)
}

// P23.2
func TestTypes(t *testing.T) {
	for _, c := range []struct {
		text string
		want []int
	}{
		{"select * from t", []int{1, 2, 3, 1, 2, 3}},
		{"select f, a, e from t", []int{3, 1, 2}},
		{"select b from t where c = 'x'", []int{2}},
		{"select count(*) from t", []int{1}},
		{"select has(c), has(b), has(a), sum(d) from t", []int{1, 1, 1, 1}},
		{"select min(a), min(b), min(c) from t", []int{1, 2, 3}},
		{"select max(f), max(e), max(d), count(*) from t", []int{3, 2, 1, 1}},
		{"select count(*) from t group by a", []int{1, 1}},
		{"select count(*), max(b) from t group by c", []int{3, 1, 2}},
		{"select sum(a), has(f), min(f), max(d) from t where a = 1 group by e", []int{2, 1, 1, 3, 1}},
	} {
		if got := group.Types(columns(), asked(t, c.text)); !slices.Equal(got, c.want) {
			t.Errorf("Types of %s = %v, want %v", c.text, got, c.want)
		}
	}
	texts := []api.Col{{Name: "z", Type: api.TyText}, {Name: "a", Type: api.TyInt}}
	if got := group.Types(texts, asked(t, "select count(*), min(z) from t group by a")); !slices.Equal(got, []int{1, 1, 3}) {
		t.Errorf("Types, the first of the columns being a text's: %v", got)
	}
}

// wrongQueries are queries that may not be, and ones that do not fit columns, with their errors.
func wrongQueries() map[api.Errno][]api.Query {
	all, count := api.Pred{Op: api.PrAll}, []api.Agg{{Op: api.AgCount}}
	isNull := api.Pred{Op: api.PrNull, Col: "z"}
	return map[api.Errno][]api.Query{
		api.ErrArg: {
			{}, {Table: "t"}, {Where: all}, {Table: "T", Where: all}, {Table: "t", Where: api.Pred{Op: 8}}, {Table: "t", Where: all, By: "a"},
			{Table: "t", Where: all, Cols: []string{"a", "a"}}, {Table: "t", Where: all, Cols: []string{""}}, {Table: "t", Where: all, Cols: []string{"a"}, Aggs: count},
			{Table: "t", Where: all, Aggs: count, By: "null"}, {Table: "t", Where: all, Aggs: []api.Agg{{Op: 1, Col: "a"}}}, {Table: "t", Where: all, Aggs: []api.Agg{{Op: 2}}},
			{Table: "t", Where: all, Aggs: []api.Agg{{Op: 6, Col: "a"}}}, {Table: "t", Where: all, Aggs: []api.Agg{{}}}, {Table: "t", Where: all, Aggs: slices.Repeat(count, 5)},
			{Table: "t", Where: all, Cols: []string{"a", "b", "c", "d", "e", "f", "g"}}, {Table: "t", Where: isNull, Cols: []string{"z", "z"}},
		},
		api.ErrType: {
			{Table: "t", Where: isNull}, {Table: "t", Where: isNull, Aggs: count}, {Table: "t", Where: all, Cols: []string{"z"}}, {Table: "t", Where: all, Cols: []string{"a", "b", "zz"}},
			{Table: "t", Where: all, Aggs: count, By: "z"}, {Table: "t", Where: all, Aggs: []api.Agg{{Op: 2, Col: "z"}}}, {Table: "t", Where: all, Aggs: []api.Agg{{Op: 3, Col: "b"}}},
			{Table: "t", Where: all, Aggs: []api.Agg{{Op: 1}, {Op: 3, Col: "f"}}, By: "a"}, {Table: "t", Where: api.Pred{Op: api.PrLike, Col: "a", Pat: "%"}},
		},
	}
}

// wrongRows are rows that may not be of columns.
func wrongRows() [][]api.Cell {
	l := [][]api.Cell{nil, {}, plainRow()[:5], plainRow()[1:], append(plainRow(), n(1)), append(plainRow(), null), append(plainRow(), plainRow()...)}
	for i, wrong := range [][]api.Cell{
		{null, s("x"), {I: 1, S: "x"}, {Null: true, I: 5}}, {null, n(2), n(-1), s("x"), {I: 1, S: "true"}}, {null, n(1), s(x(41)), {I: 1, S: "x"}},
		{s("x"), {Null: true, I: 5}, {Null: true, S: "x"}}, {n(2), n(-1), n(math.MinInt64), s("x"), {Null: true, I: 1}}, {n(1), s(x(41)), {Null: true, S: "x"}, {Null: true, I: 1}},
	} {
		for _, c := range wrong {
			r := plainRow()
			r[i] = c
			l = append(l, r)
		}
	}
	return l
}

// wrongCols are columns that may not be.
func wrongCols() [][]api.Col {
	a := api.Col{Name: "a", Type: api.TyInt}
	return [][]api.Col{nil, {}, {a, a}, {{Name: "a"}}, {{Name: "A", Type: 1}}, {{Name: "a", Type: 4}}, {a, {Name: "null", Type: 1}}, append(columns(), api.Col{Name: "g", Type: api.TyInt})}
}

// fitting are texts of queries that fit columns.
func fitting() []string {
	return []string{
		"select * from t", "select a from t", "select f, b from t where d is null", "select * from t where not a = 1", "select c from t where a = 7",
		"select count(*) from t", "select sum(d), max(f) from t where b = true", "select count(*) from t group by a", "select has(e) from t where a < 0 group by f",
	}
}

// P23.1, P23.2: the error of a query that may not be or does not fit is ahead of that of a row, and Types tells nothing.
func TestErrorsOfQueries(t *testing.T) {
	for err, l := range wrongQueries() {
		for _, q := range l {
			for _, list := range [][][]api.Cell{nil, {}, rows(), wrongRows(), {plainRow(), nil}} {
				wantError(t, columns(), q, list, err)
			}
			if got := group.Types(columns(), q); len(got) != 0 {
				t.Errorf("Types(columns, %+v) = %v", q, got)
			}
		}
	}
}

// P23.1, P23.2
func TestErrorsOfColumns(t *testing.T) {
	for _, cols := range wrongCols() {
		for _, text := range []string{"select * from t", "select a from t", "select zz from t", "select count(*) from t", "select sum(a) from t group by a", "select a from t where b is null"} {
			for _, list := range [][][]api.Cell{nil, {nil}, {{n(5)}}, {{n(5), n(5)}}, rows(), wrongRows()} {
				wantError(t, cols, asked(t, text), list, api.ErrArg)
			}
			if got := group.Types(cols, asked(t, text)); len(got) != 0 {
				t.Errorf("Types(%+v, %s) = %v", cols, text, got)
			}
		}
	}
}

// P23.1: a row that may not be is an error wherever it stands, and of whatever Where it is.
func TestErrorsOfRows(t *testing.T) {
	for _, text := range fitting() {
		for _, wrong := range wrongRows() {
			for at := range 4 {
				list := slices.Insert(table(plainRow(), nullRow(), plainRow()), at, wrong)
				wantError(t, columns(), asked(t, text), list, api.ErrType)
			}
			wantError(t, columns(), asked(t, text), table(wrong), api.ErrType)
		}
	}
}

// P23.1: predicates and lists that hold themselves end with an error.
func TestEndlessQueries(t *testing.T) {
	endless := api.Pred{Op: api.PrNot, Kids: make([]api.Pred, 1)}
	endless.Kids[0] = endless
	wide := api.Pred{Op: api.PrAnd, Kids: make([]api.Pred, 1<<16)}
	for i := range wide.Kids {
		wide.Kids[i] = wide
	}
	for _, where := range []api.Pred{endless, wide} {
		for _, q := range []api.Query{{Table: "t", Where: where}, {Table: "t", Where: where, Aggs: []api.Agg{{Op: 1}}, By: "a"}} {
			wantError(t, columns(), q, rows(), api.ErrArg)
			if got := group.Types(columns(), q); len(got) != 0 {
				t.Errorf("Types = %v", got)
			}
		}
	}
	self := make([][]api.Cell, 1<<16)
	for i := range self {
		self[i] = plainRow()[:i%6]
	}
	wantError(t, columns(), asked(t, "select * from t"), self, api.ErrType)
	long := api.Query{Table: x(1 << 20), Cols: slices.Repeat([]string{x(1 << 20)}, 1<<10), Where: api.Pred{Op: 1}, Aggs: make([]api.Agg, 1<<16), By: x(1 << 20)}
	wantError(t, columns(), long, rows(), api.ErrArg)
}

// source draws numbers by a rule.
type source uint32

// below is the next number, below n.
func (d *source) below(n int) int {
	*d = *d*1664525 + 1013904223
	return int(*d>>8) % n
}

// cell draws a cell of that type, not null, from a few.
func (d *source) cell(ty int) api.Cell {
	switch ty {
	case api.TyInt:
		return n([]int64{-1, 0, 1, 2, math.MaxInt64, math.MinInt64}[d.below(6)])
	case api.TyBool:
		return n(int64(d.below(2)))
	}
	return s([]string{"", "a", "A", "ab", "ä", "\xff", "b%"}[d.below(7)])
}

// rows draws rows of cols.
func (d *source) rows(cols []api.Col) [][]api.Cell {
	list := make([][]api.Cell, d.below(30))
	for i := range list {
		for _, col := range cols {
			c := d.cell(col.Type)
			if col.Null && d.below(3) == 0 {
				c = null
			}
			list[i] = append(list[i], c)
		}
	}
	return list
}

// cols draws some of the columns, in another order, of which each may be null or not.
func (d *source) cols() []api.Col {
	l := columns()
	for i := range l {
		l[i].Null = d.below(2) == 0
		j := d.below(i + 1)
		l[i], l[j] = l[j], l[i]
	}
	return l[:1+d.below(6)]
}

// where draws a predicate that fits cols.
func (d *source) where(cols []api.Col) api.Pred {
	col := cols[d.below(len(cols))]
	compared := api.Pred{Op: api.PrCmp, Col: col.Name, Cmp: 1 + d.below(6), Kind: col.Type, Val: d.cell(col.Type)}
	isNull := api.Pred{Op: api.PrNull, Col: col.Name}
	return []api.Pred{
		{Op: api.PrAll}, {Op: api.PrAll}, compared, compared, isNull, {Op: api.PrNot, Kids: []api.Pred{isNull}},
		{Op: api.PrNot, Kids: []api.Pred{compared}}, {Op: api.PrOr, Kids: []api.Pred{compared, isNull}},
	}[d.below(8)]
}

// agg draws an aggregate that fits cols.
func (d *source) agg(cols []api.Col) api.Agg {
	col := cols[d.below(len(cols))]
	op := 1 + d.below(5)
	switch {
	case op == api.AgCount:
		return api.Agg{Op: op}
	case op == api.AgSum && col.Type != api.TyInt:
		return api.Agg{Op: api.AgHas, Col: col.Name}
	}
	return api.Agg{Op: op, Col: col.Name}
}

// query draws a query that fits cols.
func (d *source) query(cols []api.Col) api.Query {
	q := api.Query{Table: "t", Where: d.where(cols)}
	if d.below(3) == 0 {
		for _, col := range cols {
			if d.below(2) == 0 {
				q.Cols = slices.Insert(q.Cols, d.below(len(q.Cols)+1), col.Name)
			}
		}
		return q
	}
	for range 1 + d.below(4) {
		q.Aggs = append(q.Aggs, d.agg(cols))
	}
	if d.below(3) > 0 {
		q.By = cols[d.below(len(cols))].Name
	}
	return q
}

// cellOf is row's cell in the column of that name.
func cellOf(cols []api.Col, name string, row []api.Cell) api.Cell {
	for i, col := range cols {
		if col.Name == name {
			return row[i]
		}
	}
	return api.Cell{}
}

// ahead is whether a is ahead of b: null of what is not, then by number, then by bytes.
func ahead(a, b api.Cell) bool {
	if a.Null || b.Null {
		return a.Null && !b.Null
	}
	return a.I < b.I || a.I == b.I && a.S < b.S
}

// valueByRule is what a is of rows.
func valueByRule(cols []api.Col, a api.Agg, rows [][]api.Cell) api.Cell {
	var full []api.Cell
	var sum int64
	for _, r := range rows {
		if c := cellOf(cols, a.Col, r); !c.Null {
			full = append(full, c)
			sum += c.I
		}
	}
	slices.SortFunc(full, func(a, b api.Cell) int {
		return cmp.Or(cmp.Compare(a.I, b.I), strings.Compare(a.S, b.S))
	})
	switch {
	case a.Op == api.AgCount:
		return n(int64(len(rows)))
	case a.Op == api.AgHas:
		return n(int64(len(full)))
	case len(full) == 0:
		return null
	case a.Op == api.AgSum:
		return n(sum)
	case a.Op == api.AgMin:
		return full[0]
	}
	return full[len(full)-1]
}

// valuesByRule is first, and behind it what q's Aggs are of rows.
func valuesByRule(cols []api.Col, q api.Query, first []api.Cell, rows [][]api.Cell) []api.Cell {
	told := slices.Clone(first)
	for _, a := range q.Aggs {
		told = append(told, valueByRule(cols, a, rows))
	}
	return told
}

// answerByRule is the answer to q, which fits cols, as the chapter says it.
func answerByRule(cols []api.Col, q api.Query, rows [][]api.Cell) [][]api.Cell {
	var some, told [][]api.Cell
	var unlike []api.Cell
	for _, r := range rows {
		if is, _ := eval.Row(cols, q.Where, r); is != eval.Yes {
			continue
		}
		some = append(some, r)
		if c := cellOf(cols, q.By, r); !slices.Contains(unlike, c) {
			unlike = append(unlike, c)
		}
		if len(q.Cols) == 0 {
			told = append(told, r)
			continue
		}
		var own []api.Cell
		for _, name := range q.Cols {
			own = append(own, cellOf(cols, name, r))
		}
		told = append(told, own)
	}
	if len(q.Aggs) == 0 {
		return told
	}
	if q.By == "" {
		return table(valuesByRule(cols, q, nil, some))
	}
	return groupsByRule(cols, q, unlike, some)
}

// groupsByRule is of each of unlike, rising, a row.
func groupsByRule(cols []api.Col, q api.Query, unlike []api.Cell, rows [][]api.Cell) [][]api.Cell {
	told := make([][]api.Cell, len(unlike))
	for _, c := range unlike {
		at := 0
		for _, other := range unlike {
			if ahead(other, c) {
				at++
			}
		}
		var its [][]api.Cell
		for _, r := range rows {
			if cellOf(cols, q.By, r) == c {
				its = append(its, r)
			}
		}
		told[at] = valuesByRule(cols, q, row(c), its)
	}
	return told
}

// typesByRule is the types of the columns of the answer to q, which fits cols.
func typesByRule(cols []api.Col, q api.Query) []int {
	of := map[string]int{}
	var every, types []int
	for _, col := range cols {
		of[col.Name] = col.Type
		every = append(every, col.Type)
	}
	if len(q.Cols) == 0 && len(q.Aggs) == 0 {
		return every
	}
	for _, name := range q.Cols {
		types = append(types, of[name])
	}
	if q.By != "" {
		types = append(types, of[q.By])
	}
	for _, a := range q.Aggs {
		ty := of[a.Col]
		if a.Op <= 3 {
			ty = api.TyInt
		}
		types = append(types, ty)
	}
	return types
}

// P23.1, P23.2: what is drawn is answered as the chapter says it, in whatever order the groups stand in memory.
func TestDrawn(t *testing.T) {
	d := source(1)
	plain, total, grouped := 0, 0, 0
	for range 20000 {
		cols := d.cols()
		q, list := d.query(cols), d.rows(cols)
		got, err := group.Answer(cols, q, list)
		if want := answerByRule(cols, q, list); err != api.OK || !alike(got, want) {
			t.Fatalf("%s, of %+v, %+v: %+v and error %d, want %+v", query.Text(q), cols, list, got, err, want)
		}
		if types := group.Types(cols, q); !slices.Equal(types, typesByRule(cols, q)) {
			t.Fatalf("Types of %s, of %+v: %v", query.Text(q), cols, types)
		}
		switch {
		case len(q.Aggs) == 0:
			plain++
		case q.By == "":
			total++
		default:
			grouped++
		}
	}
	if min(plain, total, grouped) < 3000 {
		t.Fatalf("%d, %d and %d are drawn", plain, total, grouped)
	}
}

// P23.3: an answer's rows may be of the answer's types, null or not, beneath as many heads.
func TestAnswersMayBe(t *testing.T) {
	d := source(2)
	for range 10000 {
		cols := d.cols()
		q, list := d.query(cols), d.rows(cols)
		got, _ := group.Answer(cols, q, list)
		types := group.Types(cols, q)
		if len(types) == 0 || len(types) != len(query.Names(cols, q)) {
			t.Fatalf("Types of %s: %v", query.Text(q), types)
		}
		var its []api.Col
		for i, ty := range types {
			its = append(its, api.Col{Name: "c" + string(rune('0'+i)), Type: ty, Null: true})
		}
		for _, r := range got {
			if !schema.Row(its, r) {
				t.Fatalf("%s: %+v may not be a row of the types %v", query.Text(q), r, types)
			}
		}
	}
}

// P23.3: the counts of all groups, and their sums, are together those of all; groups rise.
func TestGroupsAreAll(t *testing.T) {
	d := source(3)
	for range 10000 {
		cols := d.cols()
		q, list := api.Query{Table: "t", Where: d.where(cols), Aggs: []api.Agg{{Op: api.AgCount}}}, d.rows(cols)
		plain, _ := group.Answer(cols, api.Query{Table: "t", Where: q.Where}, list)
		all, _ := group.Answer(cols, q, list)
		q.By = cols[d.below(len(cols))].Name
		parts, _ := group.Answer(cols, q, list)
		var sum int64
		for i, r := range parts {
			if i > 0 && cell.Order(parts[i-1][0], r[0]) >= 0 || r[1].I < 1 {
				t.Fatalf("%s: %+v", query.Text(q), parts)
			}
			sum += r[1].I
		}
		if len(all) != 1 || sum != all[0][0].I || sum != int64(len(plain)) {
			t.Fatalf("%s: %+v, of all %+v, of %d rows", query.Text(q), parts, all, len(plain))
		}
	}
}

// deepCopy is rows that share nothing with these.
func deepCopy(rows [][]api.Cell) [][]api.Cell {
	var l [][]api.Cell
	for _, r := range rows {
		l = append(l, slices.Clone(r))
	}
	return l
}

// roomy is rows as lists with room behind them.
func roomy(rows [][]api.Cell) [][]api.Cell {
	l := make([][]api.Cell, 0, 100)
	for _, r := range rows {
		l = append(l, append(make([]api.Cell, 0, 20), r...))
	}
	return l
}

// wantBare is whether nothing stands in the room behind the rows, and the lists of the query.
func wantBare(t *testing.T, q api.Query, rows [][]api.Cell) {
	t.Helper()
	for _, r := range rows[len(rows):cap(rows)] {
		if r != nil {
			t.Fatalf("%s: behind the rows there is %+v", query.Text(q), r)
		}
	}
	for _, r := range rows {
		for _, c := range r[len(r):cap(r)] {
			if c != (api.Cell{}) {
				t.Fatalf("%s: behind a row there is %+v", query.Text(q), c)
			}
		}
	}
	if rest := q.Cols[len(q.Cols):cap(q.Cols)]; slices.ContainsFunc(rest, func(s string) bool { return s != "" }) {
		t.Fatalf("behind the Cols there is %q", rest)
	}
	if rest := q.Aggs[len(q.Aggs):cap(q.Aggs)]; slices.ContainsFunc(rest, func(a api.Agg) bool { return a != api.Agg{} }) {
		t.Fatalf("behind the Aggs there is %+v", rest)
	}
}

// P23.1, P23.2: what is handed in is not changed, what is answered shares nothing with it, nor do two rows, and each call answers alike.
func TestSharesNothing(t *testing.T) {
	for _, text := range append(fitting(), "select a, b, c, d, e, f from t", "select count(*), has(a), sum(a), max(a) from t group by c") {
		q := asked(t, text)
		q.Cols = append(make([]string, 0, 20), q.Cols...)
		q.Aggs = append(make([]api.Agg, 0, 20), q.Aggs...)
		cols, list := columns(), roomy(rows())
		got, _ := group.Answer(cols, q, list)
		types := group.Types(cols, q)
		first, firstTypes := deepCopy(got), slices.Clone(types)
		for i := range got {
			for j := range got[i] {
				got[i][j] = n(77)
			}
			_ = append(got[i], n(78), n(78), n(78), n(78), n(78), n(78))
			if i+1 < len(got) && !alike(got[i+1:], first[i+1:]) {
				t.Fatalf("%s: row %d shares", text, i)
			}
		}
		_ = append(got, row(n(79)), row(n(79)))
		for i := range types {
			types[i] = 99
		}
		_ = append(types, 99)
		wantBare(t, q, list)
		if !alike(list, rows()) || !reflect.DeepEqual(cols, columns()) || !query.Same(q, asked(t, text)) {
			t.Fatalf("%s: %+v, %+v and %+v are changed", text, cols, q, list)
		}
		again, _ := group.Answer(cols, q, list)
		if !alike(again, first) || !slices.Equal(group.Types(cols, q), firstTypes) {
			t.Fatalf("%s has another answer: %+v", text, again)
		}
	}
}

// P23.1: an answer that was given stays, whatever becomes of what was handed in.
func TestAnswersStay(t *testing.T) {
	for _, text := range fitting() {
		q, list := asked(t, text), rows()
		got, _ := group.Answer(columns(), q, list)
		kept := deepCopy(got)
		for _, r := range list {
			for i := range r {
				r[i] = n(77)
			}
		}
		if !alike(got, kept) {
			t.Fatalf("%s: %+v was %+v", text, got, kept)
		}
	}
}
