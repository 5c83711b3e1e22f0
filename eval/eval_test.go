package eval_test

import (
	"math"
	"reflect"
	"slices"
	"strings"
	"testing"

	"firkin/api"
	"firkin/eval"
	"firkin/pred"
	"firkin/schema"
)

// The truths, as the chapter counts them.
const (
	no    = 0
	yes   = 1
	maybe = 2
)

var null = api.Cell{Null: true}

// The cells of a number or a truth, and of a text.
func n(i int64) api.Cell  { return api.Cell{I: i} }
func s(t string) api.Cell { return api.Cell{S: t} }

// x is a text of so many bytes.
func x(size int) string { return strings.Repeat("x", size) }

// The predicates of each kind.
func every() api.Pred { return api.Pred{Op: api.PrAll} }
func compare(col string, comparison, kind int, val api.Cell) api.Pred {
	return api.Pred{Op: api.PrCmp, Col: col, Cmp: comparison, Kind: kind, Val: val}
}
func num(col string, comparison int, i int64) api.Pred {
	return compare(col, comparison, api.TyInt, n(i))
}
func truth(col string, comparison int, i int64) api.Pred {
	return compare(col, comparison, api.TyBool, n(i))
}
func textual(col string, comparison int, t string) api.Pred {
	return compare(col, comparison, api.TyText, s(t))
}
func isNull(col string) api.Pred        { return api.Pred{Op: api.PrNull, Col: col} }
func like(col, pattern string) api.Pred { return api.Pred{Op: api.PrLike, Col: col, Pat: pattern} }
func not(kid api.Pred) api.Pred         { return api.Pred{Op: api.PrNot, Kids: []api.Pred{kid}} }
func and(kids ...api.Pred) api.Pred     { return api.Pred{Op: api.PrAnd, Kids: kids} }
func or(kids ...api.Pred) api.Pred      { return api.Pred{Op: api.PrOr, Kids: kids} }

// columns are those that the tests' rows are of: a number, a truth, a text, and each once more, null.
func columns() []api.Col {
	return []api.Col{
		{Name: "a", Type: api.TyInt}, {Name: "b", Type: api.TyBool}, {Name: "c", Type: api.TyText},
		{Name: "d", Type: api.TyInt, Null: true}, {Name: "e", Type: api.TyBool, Null: true}, {Name: "f", Type: api.TyText, Null: true},
	}
}

// row is a row of columns.
func row(a, b, c, d, e, f api.Cell) []api.Cell { return []api.Cell{a, b, c, d, e, f} }

// plainRow is a row of columns without null, and nullRow one with all the nulls that may be.
func plainRow() []api.Cell { return row(n(5), n(1), s("x"), n(5), n(1), s("x")) }
func nullRow() []api.Cell  { return row(n(5), n(1), s("x"), null, null, null) }

// The numbers and the texts that are held against each other, rising.
func numbers() []int64 {
	return []int64{math.MinInt64, math.MinInt64 + 1, -1 << 32, -11, -10, -1, 0, 1, 2, 9, 10, 1<<32 + 1, math.MaxInt64 - 1, math.MaxInt64}
}
func texts() []string {
	return []string{"", "\x00", "\x00\x00", " ", "'", "10", "9", "A", "B", "Z", "a", "a\x00", "aa", "ab", "b", x(39), x(40), "z", "~", "\x7f", "\x80", "ä", "é", "\U0001F600", "\xff"}
}

// agrees is whether two things in that order (below 0, 0, above 0) are as that comparison says, by the places of the comparisons' marks.
func agrees(comparison, order int) bool {
	return strings.Contains([]string{"", "=", "<>", "<", "<=", ">", ">="}[comparison], "<=>"[sign(order)+1:sign(order)+2])
}

// sign is -1, 0 or 1, as n is.
func sign(n int) int {
	if n < 0 {
		return -1
	}
	return min(n, 1)
}

// truthOf is yes or no.
func truthOf(is bool) int {
	if is {
		return yes
	}
	return no
}

// want is whether Row answers that truth.
func want(t *testing.T, p api.Pred, row []api.Cell, is int) {
	t.Helper()
	if got, err := eval.Row(columns(), p, row); got != is || err != api.OK {
		t.Errorf("Row(%q, %+v) = %d and error %d, want %d", pred.Text(p), row, got, err, is)
	}
}

// wantError is whether Row, and Rows of that row among others, answer that error and nothing else.
func wantError(t *testing.T, cols []api.Col, p api.Pred, row []api.Cell, want api.Errno) {
	t.Helper()
	if got, err := eval.Row(cols, p, row); got != 0 || err != want {
		t.Errorf("Row(%+v, %+v, %+v) = %d and error %d, want %d", cols, p, row, got, err, want)
	}
	if got, err := eval.Rows(cols, p, [][]api.Cell{row}); len(got) != 0 || err != want {
		t.Errorf("Rows(%+v, %+v, %+v) = %v and error %d, want %d", cols, p, row, got, err, want)
	}
}

func TestExample(t *testing.T) { // P20.1
	cols := []api.Col{{Name: "a", Type: api.TyInt, Null: true}}
	for _, c := range []struct {
		p    api.Pred
		want int
	}{{num("a", api.CmpEq, 5), maybe}, {not(num("a", api.CmpEq, 5)), maybe}, {isNull("a"), yes}} {
		if got, err := eval.Row(cols, c.p, []api.Cell{null}); got != c.want || err != api.OK {
			t.Errorf("%q of a null = %d and error %d, want %d", pred.Text(c.p), got, err, c.want)
		}
	}
}

func TestTruths(t *testing.T) { // P20.1
	if eval.No != no || eval.Yes != yes || eval.Maybe != maybe {
		t.Errorf("No, Yes and Maybe are %d, %d and %d", eval.No, eval.Yes, eval.Maybe)
	}
	for _, r := range [][]api.Cell{plainRow(), nullRow(), row(n(0), n(0), s(""), n(0), n(0), s(""))} {
		want(t, every(), r, yes)
		want(t, not(every()), r, no)
	}
}

func TestNumbers(t *testing.T) { // P20.1
	for i, a := range numbers() {
		for j, b := range numbers() {
			for comparison := api.CmpEq; comparison <= api.CmpGe; comparison++ {
				is := truthOf(agrees(comparison, i-j))
				want(t, num("a", comparison, b), row(n(a), n(1), s("x"), n(b), null, null), is)
				want(t, num("d", comparison, b), row(n(b), n(0), s("y"), n(a), n(1), s("z")), is)
			}
		}
	}
}

func TestFalseAheadOfTrue(t *testing.T) { // P20.1
	for a := range int64(2) {
		for b := range int64(2) {
			for comparison := api.CmpEq; comparison <= api.CmpGe; comparison++ {
				is := truthOf(agrees(comparison, int(a-b)))
				want(t, truth("b", comparison, b), row(n(1-a), n(a), s("x"), n(b), n(b), null), is)
				want(t, truth("e", comparison, b), row(n(1-a), n(b), s("y"), n(b), n(a), s("z")), is)
			}
		}
	}
}

func TestTextsByteByByte(t *testing.T) { // P20.1
	for i, a := range texts() {
		for j, b := range texts() {
			for comparison := api.CmpEq; comparison <= api.CmpGe; comparison++ {
				is := truthOf(agrees(comparison, i-j))
				want(t, textual("c", comparison, b), row(n(1), n(1), s(a), null, null, s(b)), is)
				want(t, textual("f", comparison, b), row(n(1), n(1), s(b), n(1), n(1), s(a)), is)
			}
		}
	}
}

func TestOfNull(t *testing.T) { // P20.1
	for comparison := api.CmpEq; comparison <= api.CmpGe; comparison++ {
		for _, i := range append(numbers(), 5) {
			want(t, num("d", comparison, i), nullRow(), maybe)
			want(t, not(num("d", comparison, i)), nullRow(), maybe)
		}
		for i := range int64(2) {
			want(t, truth("e", comparison, i), nullRow(), maybe)
			want(t, not(truth("e", comparison, i)), nullRow(), maybe)
		}
		for _, v := range append(texts(), "null") {
			want(t, textual("f", comparison, v), nullRow(), maybe)
			want(t, not(textual("f", comparison, v)), nullRow(), maybe)
		}
	}
	for _, pattern := range []string{"", "%", "_", "x", "%%", "null"} {
		want(t, like("f", pattern), nullRow(), maybe)
		want(t, not(like("f", pattern)), nullRow(), maybe)
		want(t, not(not(like("f", pattern))), nullRow(), maybe)
	}
}

func TestIsNull(t *testing.T) { // P20.1
	zero := row(n(0), n(0), s(""), n(0), n(0), s(""))
	for i, col := range columns() {
		want(t, isNull(col.Name), plainRow(), no)
		want(t, isNull(col.Name), zero, no)
		want(t, isNull(col.Name), nullRow(), truthOf(i >= 3))
		want(t, not(isNull(col.Name)), nullRow(), truthOf(i < 3))
		if i >= 3 {
			one := plainRow()
			one[i] = null
			for j, other := range columns() {
				want(t, isNull(other.Name), one, truthOf(i == j))
			}
		}
	}
	for _, p := range []api.Pred{num("d", api.CmpEq, 0), truth("e", api.CmpEq, 0), textual("f", api.CmpEq, ""), like("f", "")} { // what is zero is not null
		want(t, p, zero, yes)
		want(t, not(p), zero, no)
	}
}

func TestLike(t *testing.T) { // P20.1
	for _, c := range []struct {
		pattern, text string
		want          int
	}{
		{"a%_", "äb", no}, {"a%_", "Axy", yes}, {"", "", yes}, {"", "x", no}, {"%", "", yes}, {"%", "anything", yes}, {"_", "", no}, {"_", "x", yes}, {"_", "xy", no},
		{"_", "ä", yes}, {"__", "ä", no}, {"_", "\xff", yes}, {"x%", "x", yes}, {"x%", "yx", no}, {"%x", "yx", yes}, {"%x", "xy", no}, {"%x%", "yxy", yes}, {"x", "X", yes}, {"X", "x", yes},
		{"Ä", "ä", no}, {"ä", "ä", yes}, {"x", "%", no}, {"x", "_", no}, {"%", "%", yes}, {"abc", "abd", no}, {"abc", "ABC", yes}, {"a_c", "abc", yes}, {"a%c", "abcb", no}, {x(40), x(40), yes}, {"%", x(40), yes}, {x(40), x(39), no},
		{"null", "null", yes}, {"null", "", no},
	} {
		want(t, like("c", c.pattern), row(n(1), n(1), s(c.text), null, null, s(c.pattern)), c.want)
		want(t, like("f", c.pattern), row(n(1), n(1), s(c.pattern), n(1), n(1), s(c.text)), c.want)
		want(t, not(like("c", c.pattern)), row(n(1), n(1), s(c.text), null, null, null), 1-c.want)
	}
}

// known are predicates that are no, yes and maybe of nullRow, by their truths.
func known() [][]api.Pred {
	return [][]api.Pred{
		no:    {num("a", api.CmpLt, 5), truth("b", api.CmpEq, 0), like("c", "y"), isNull("a"), not(every())},
		yes:   {num("a", api.CmpLe, 5), truth("b", api.CmpNe, 0), like("c", "x"), isNull("d"), every()},
		maybe: {num("d", api.CmpEq, 5), truth("e", api.CmpGe, 0), like("f", "%"), textual("f", api.CmpNe, ""), not(num("d", api.CmpEq, 5))},
	}
}

func TestNot(t *testing.T) { // P20.1
	for is, l := range known() {
		for _, p := range l {
			want(t, p, nullRow(), is)
			want(t, not(p), nullRow(), []int{yes, no, maybe}[is])
			want(t, not(not(p)), nullRow(), is)
			want(t, not(not(not(p))), nullRow(), []int{yes, no, maybe}[is])
		}
	}
}

func TestAndOr(t *testing.T) { // P20.1
	both := [3][3]int{no: {no, no, no}, yes: {no, yes, maybe}, maybe: {no, maybe, maybe}}
	either := [3][3]int{no: {no, yes, maybe}, yes: {yes, yes, yes}, maybe: {maybe, yes, maybe}}
	l := known()
	for i := range 3 {
		for j := range 3 {
			for _, p := range l[i] {
				for _, q := range l[j] {
					want(t, and(p, q), nullRow(), both[i][j])
					want(t, or(p, q), nullRow(), either[i][j])
				}
			}
			for k := range 3 {
				want(t, and(l[i][0], l[j][1], l[k][2]), nullRow(), both[both[i][j]][k])
				want(t, or(l[i][3], l[j][2], l[k][1]), nullRow(), either[either[i][j]][k])
				want(t, and(l[i][0], or(l[j][1], l[k][2])), nullRow(), both[i][either[j][k]])
				want(t, or(and(l[i][0], l[j][1]), l[k][2]), nullRow(), either[both[i][j]][k])
				want(t, not(and(l[i][4], not(or(l[j][0], l[k][1])))), nullRow(), []int{yes, no, maybe}[both[i][[]int{yes, no, maybe}[either[j][k]]]])
			}
		}
	}
}

func TestAndOrOfMany(t *testing.T) { // P20.1
	l := known()
	for many := 2; many <= 15; many++ {
		for at := range many {
			for is := range 3 {
				for other := range 3 {
					kids := slices.Repeat(l[other][:1], many)
					kids[at] = l[is][1]
					want(t, and(kids...), nullRow(), kleene(is, other, false))
					want(t, or(kids...), nullRow(), kleene(is, other, true))
				}
			}
		}
	}
}

// kleene is the least, or the greatest, of two truths, no being the least of the three, and maybe between.
func kleene(a, b int, greatest bool) int {
	places := []int{no: 0, yes: 2, maybe: 1}
	if greatest == (places[a] > places[b]) {
		return a
	}
	return b
}

// wrongPreds are predicates that may not be, and ones that do not fit columns, with their errors.
func wrongPreds() map[api.Errno][]api.Pred {
	a := isNull("a")
	return map[api.Errno][]api.Pred{
		api.ErrArg: {{}, {Op: 8}, {Op: -1}, {Op: 1, Col: "a"}, and(a), or(), not(api.Pred{}), and(a, and(a, a)), num("A", 1, 1), num("a", 0, 1), num("a", 7, 1), truth("b", 1, 2), textual("c", 1, x(41)),
			like("c", x(41)), compare("d", 1, 1, null), not(not(not(not(not(not(a)))))), and(slices.Repeat([]api.Pred{a}, 16)...), or(every(), api.Pred{}), and(num("z", 1, 1), api.Pred{}),
			{Op: 5, Kids: []api.Pred{a, a}}, {Op: 2, Col: "a", Cmp: 1}, compare("a", 1, 1, s("x"))},
		api.ErrType: {num("z", 1, 1), isNull("z"), like("z", "x"), num("b", 1, 1), num("c", 1, 1), truth("a", 1, 1), textual("a", 1, "x"), like("a", "x"), like("e", "x"), not(isNull("z")), or(every(), num("b", 1, 1)), and(not(every()), like("d", "%"))},
	}
}

// wrongRows are rows that may not be of columns.
func wrongRows() [][]api.Cell {
	l := [][]api.Cell{nil, {}, plainRow()[:5], plainRow()[1:], append(plainRow(), n(1)), append(plainRow(), null), append(plainRow(), plainRow()...)}
	for i, wrong := range [][]api.Cell{
		{null, s("x"), {I: 1, S: "x"}, {Null: true, I: 5}}, {null, n(2), n(-1), s("x"), {I: 1, S: "true"}}, {null, n(1), s(x(41)), {I: 1, S: "x"}},
		{s("x"), {Null: true, I: 5}, {Null: true, S: "x"}}, {n(2), n(-1), n(math.MinInt64), s("x"), {Null: true, I: 1}}, {n(1), s(x(41)), {Null: true, S: "x"}, {Null: true, I: 1}},
	} {
		for _, c := range wrong {
			r := plainRow()
			r[i] = c
			l = append(l, r)
		}
	}
	return l
}

// wrongCols are columns that may not be.
func wrongCols() [][]api.Col {
	a := api.Col{Name: "a", Type: api.TyInt}
	return [][]api.Col{nil, {}, {a, a}, {{Name: "a"}}, {{Name: "A", Type: 1}}, {{Name: "a", Type: 4}}, {a, {Name: "null", Type: 1}}, append(columns(), api.Col{Name: "g", Type: api.TyInt})}
}

func TestErrorsOfPredicates(t *testing.T) { // P20.2, P20.3
	for err, l := range wrongPreds() {
		for _, p := range l {
			for _, r := range append(wrongRows(), plainRow(), nullRow()) {
				wantError(t, columns(), p, r, err)
			}
			for _, rows := range [][][]api.Cell{nil, {}, {plainRow(), nullRow()}, wrongRows()} {
				if got, is := eval.Rows(columns(), p, rows); len(got) != 0 || is != err {
					t.Errorf("Rows(columns, %+v, %d rows) = %v and error %d, want %d", p, len(rows), got, is, err)
				}
			}
		}
	}
}

func TestErrorsOfColumns(t *testing.T) { // P20.2, P20.3
	for _, cols := range wrongCols() {
		for _, p := range []api.Pred{every(), num("a", 1, 5), isNull("z"), {}} {
			for _, r := range [][]api.Cell{nil, {n(5)}, {n(5), n(5)}, plainRow(), append(plainRow(), n(1))} {
				wantError(t, cols, p, r, api.ErrArg)
			}
			if got, err := eval.Rows(cols, p, nil); len(got) != 0 || err != api.ErrArg {
				t.Errorf("Rows(%+v, %+v, nil) = %v and error %d", cols, p, got, err)
			}
		}
	}
}

func TestErrorsOfRows(t *testing.T) { // P20.2, P20.3
	for _, r := range wrongRows() {
		for _, p := range []api.Pred{every(), not(every()), num("a", 1, 5), truth("b", 1, 1), textual("c", 1, "x"), isNull("a"), isNull("f"), like("c", "%"), and(isNull("a"), num("d", 1, 5)), or(every(), like("f", "x"))} {
			wantError(t, columns(), p, r, api.ErrType)
		}
	}
}

func TestErrorsAmongRows(t *testing.T) { // P20.3
	for _, wrong := range wrongRows() {
		for many := 1; many < 6; many++ {
			for at := range many {
				rows := slices.Repeat([][]api.Cell{plainRow()}, many)
				rows[at] = wrong
				for _, p := range []api.Pred{every(), not(every()), num("a", 1, 5)} {
					if got, err := eval.Rows(columns(), p, rows); len(got) != 0 || err != api.ErrType {
						t.Errorf("Rows(%q) = %v and error %d, with a wrong row at %d of %d", pred.Text(p), got, err, at, many)
					}
				}
			}
		}
	}
}

func TestRows(t *testing.T) { // P20.3
	cols := []api.Col{{Name: "a", Type: api.TyInt, Null: true}, {Name: "b", Type: api.TyText, Null: true}}
	rows := [][]api.Cell{{n(1), s("x")}, {null, s("y")}, {n(2), null}, {n(2), s("X")}, {null, null}, {n(-3), s("")}, {n(1), s("x")}}
	for _, c := range []struct {
		p    api.Pred
		want []int
	}{
		{every(), []int{0, 1, 2, 3, 4, 5, 6}}, {not(every()), nil}, {num("a", api.CmpEq, 1), []int{0, 6}}, {num("a", api.CmpNe, 1), []int{2, 3, 5}}, {not(num("a", api.CmpEq, 1)), []int{2, 3, 5}},
		{num("a", api.CmpLt, 1), []int{5}}, {num("a", api.CmpLe, 1), []int{0, 5, 6}}, {num("a", api.CmpGt, 1), []int{2, 3}}, {num("a", api.CmpGe, 1), []int{0, 2, 3, 6}}, {num("a", api.CmpEq, 7), nil},
		{isNull("a"), []int{1, 4}}, {not(isNull("a")), []int{0, 2, 3, 5, 6}}, {like("b", "x"), []int{0, 3, 6}}, {not(like("b", "x")), []int{1, 5}}, {textual("b", api.CmpEq, "x"), []int{0, 6}},
		{and(num("a", api.CmpGe, 1), like("b", "%")), []int{0, 3, 6}}, {or(num("a", api.CmpGe, 1), like("b", "%")), []int{0, 1, 2, 3, 5, 6}}, {not(and(num("a", api.CmpGe, 1), like("b", "%"))), []int{5}},
		{and(isNull("a"), isNull("b")), []int{4}}, {or(num("a", api.CmpEq, 1), not(num("a", api.CmpEq, 1))), []int{0, 2, 3, 5, 6}},
	} {
		if got, err := eval.Rows(cols, c.p, rows); !slices.Equal(got, c.want) || err != api.OK {
			t.Errorf("Rows(%q) = %v and error %d, want %v", pred.Text(c.p), got, err, c.want)
		}
	}
	for _, none := range [][][]api.Cell{nil, {}} {
		if got, err := eval.Rows(cols, every(), none); len(got) != 0 || err != api.OK {
			t.Errorf("Rows of no rows = %v and error %d", got, err)
		}
	}
}

func TestManyRows(t *testing.T) { // P20.3
	const many = 1 << 17
	var rows [][]api.Cell
	for i := range int64(many) {
		rows = append(rows, row(n(i), n(i%2), s(""), null, n(i/2%2), null))
	}
	got, err := eval.Rows(columns(), and(truth("b", api.CmpEq, 1), truth("e", api.CmpEq, 0)), rows)
	if len(got) != many/4 || err != api.OK {
		t.Fatalf("%d of %d rows, and error %d", len(got), many, err)
	}
	for i, at := range got {
		if at != 4*i+1 {
			t.Fatalf("place %d is %d", i, at)
		}
	}
}

// source draws numbers by a rule.
type source uint32

// below is the next number, below n.
func (d *source) below(n int) int {
	*d = *d*1664525 + 1013904223
	return int(*d>>8) % n
}

// cell draws a cell of that type, not null, from a few.
func (d *source) cell(ty int) api.Cell {
	switch ty {
	case api.TyInt:
		return n([]int64{-1, 0, 1, 2, math.MaxInt64, math.MinInt64}[d.below(6)])
	case api.TyBool:
		return n(int64(d.below(2)))
	}
	return s([]string{"", "a", "A", "ab", "ä", "\xff", "b%"}[d.below(7)])
}

// row draws a row of cols.
func (d *source) row(cols []api.Col) []api.Cell {
	var r []api.Cell
	for _, col := range cols {
		c := d.cell(col.Type)
		if col.Null && d.below(3) == 0 {
			c = null
		}
		r = append(r, c)
	}
	return r
}

// cols draws some of the columns, in another order, of which each may be null or not.
func (d *source) cols() []api.Col {
	l := columns()
	for i := range l {
		l[i].Null = d.below(2) == 0
		j := d.below(i + 1)
		l[i], l[j] = l[j], l[i]
	}
	return l[:1+d.below(6)]
}

// leaf draws a predicate without Kids that fits cols.
func (d *source) leaf(cols []api.Col) api.Pred {
	col := cols[d.below(len(cols))]
	switch d.below(8) {
	case 0:
		return every()
	case 1:
		return isNull(col.Name)
	case 2, 3:
		if col.Type == api.TyText {
			return like(col.Name, []string{"", "%", "_", "a%", "%B", "a_", "Ä"}[d.below(7)])
		}
	}
	return compare(col.Name, 1+d.below(6), col.Type, d.cell(col.Type))
}

// pred draws a predicate that fits cols, unless it has too many within it.
func (d *source) pred(cols []api.Col, levels int) api.Pred {
	op := 5 + d.below(3)
	if levels == 1 || d.below(4) == 0 {
		return d.leaf(cols)
	}
	if op == api.PrNot {
		return not(d.pred(cols, levels-1))
	}
	p := api.Pred{Op: op}
	for len(p.Kids) < 2 || d.below(3) == 0 {
		if kid := d.pred(cols, levels-1); kid.Op != op {
			p.Kids = append(p.Kids, kid)
		}
	}
	return p
}

// byRule is what p, which fits cols, is of a row, as the chapter says it.
func byRule(cols []api.Col, p api.Pred, row []api.Cell) int {
	var c api.Cell
	for i, col := range cols {
		if col.Name == p.Col {
			c = row[i]
		}
	}
	switch {
	case p.Op == 1:
		return yes
	case p.Op == 3:
		return truthOf(c.Null)
	case p.Op == 5:
		return []int{yes, no, maybe}[byRule(cols, p.Kids[0], row)]
	case p.Op >= 6:
		is := byRule(cols, p.Kids[0], row)
		for _, kid := range p.Kids[1:] {
			is = kleene(is, byRule(cols, kid, row), p.Op == 7)
		}
		return is
	case c.Null:
		return maybe
	case p.Op == 4:
		return truthOf(likeByRule([]rune(foldByRule(p.Pat)), []rune(foldByRule(c.S))))
	case p.Kind == 3:
		return truthOf(agrees(p.Cmp, slices.Compare([]byte(c.S), []byte(p.Val.S))))
	case c.I < p.Val.I:
		return truthOf(agrees(p.Cmp, -1))
	}
	return truthOf(agrees(p.Cmp, truthOf(c.I > p.Val.I)))
}

// foldByRule is s, of which A to Z are a to z.
func foldByRule(s string) string {
	return strings.Map(func(r rune) rune {
		if r >= 'A' && r <= 'Z' {
			return r + 32
		}
		return r
	}, s)
}

// likeByRule is whether a text can be parted as the pattern says.
func likeByRule(pattern, text []rune) bool {
	switch {
	case len(pattern) == 0:
		return len(text) == 0
	case pattern[0] == '%':
		return likeByRule(pattern[1:], text) || len(text) > 0 && likeByRule(pattern, text[1:])
	}
	return len(text) > 0 && (pattern[0] == '_' || pattern[0] == text[0]) && likeByRule(pattern[1:], text[1:])
}

// drawn asks of many predicates, which may be, with their columns, and some rows.
func drawn(t *testing.T, seed source, levels int, ask func(cols []api.Col, p api.Pred, rows [][]api.Cell)) {
	t.Helper()
	asked := 0
	for range 6000 {
		cols := seed.cols()
		p := seed.pred(cols, 1+seed.below(levels))
		if !pred.May(p) {
			continue
		}
		asked++
		var rows [][]api.Cell
		for range seed.below(9) {
			rows = append(rows, seed.row(cols))
		}
		ask(cols, p, rows)
	}
	if asked < 4000 {
		t.Errorf("just %d of those drawn may be", asked)
	}
}

func TestOfDrawn(t *testing.T) { // P20.1, P20.2, P20.3
	var many [3]int
	drawn(t, 20, 6, func(cols []api.Col, p api.Pred, rows [][]api.Cell) {
		var places []int
		for i, r := range rows {
			is := byRule(cols, p, r)
			many[is]++
			if is == yes {
				places = append(places, i)
			}
			if got, err := eval.Row(cols, p, r); got != is || err != api.OK {
				t.Fatalf("Row(%+v, %q, %+v) = %d and error %d, want %d", cols, pred.Text(p), r, got, err, is)
			}
		}
		if got, err := eval.Rows(cols, p, rows); !slices.Equal(got, places) || err != api.OK {
			t.Fatalf("Rows(%+v, %q, %+v) = %v and error %d, want %v", cols, pred.Text(p), rows, got, err, places)
		}
	})
	if slices.Min(many[:]) < 2000 {
		t.Errorf("the truths of those drawn are %v", many)
	}
}

// nots is p within a not, or what is within p, if it is one, so that it is as deep as it may be.
func nots(p api.Pred) api.Pred {
	if p.Op == api.PrNot {
		return p.Kids[0]
	}
	return not(p)
}

func TestNotOfAndIsOrOfNots(t *testing.T) { // P20.4
	seen := 0
	drawn(t, 4, 4, func(cols []api.Col, p api.Pred, rows [][]api.Cell) {
		if p.Op < api.PrAnd {
			return
		}
		q := api.Pred{Op: api.PrAnd + api.PrOr - p.Op}
		for _, kid := range p.Kids {
			q.Kids = append(q.Kids, nots(kid))
		}
		if !pred.May(q) || !pred.May(not(p)) {
			return
		}
		seen++
		for _, r := range rows {
			a, _ := eval.Row(cols, not(p), r)
			b, err := eval.Row(cols, q, r)
			if a != b || err != api.OK {
				t.Fatalf("%q is %d, and %q is %d, of %+v", pred.Text(not(p)), a, pred.Text(q), b, r)
			}
		}
	})
	if seen < 1000 {
		t.Errorf("just %d seen", seen)
	}
}

func TestYesOfOneOrMaybeOfBoth(t *testing.T) { // P20.4
	var seen [3]int
	drawn(t, 7, 5, func(cols []api.Col, p api.Pred, rows [][]api.Cell) {
		if !pred.May(not(p)) {
			return
		}
		for _, r := range rows {
			a, _ := eval.Row(cols, p, r)
			b, err := eval.Row(cols, not(p), r)
			if err != api.OK || !(a == yes && b == no || a == no && b == yes || a == maybe && b == maybe) {
				t.Fatalf("%q is %d, and not of it %d, of %+v", pred.Text(p), a, b, r)
			}
			seen[a]++
		}
	})
	if slices.Min(seen[:]) < 1000 {
		t.Errorf("just so many seen: %v", seen)
	}
}

func TestOfGreatOnes(t *testing.T) { // P20.2, rule 1
	a := isNull("a")
	far := a
	for range 1 << 15 {
		far = not(far)
	}
	itself := make([]api.Pred, 2)
	for i := range itself {
		itself[i] = api.Pred{Op: 6 + i, Kids: itself}
	}
	long := slices.Repeat(plainRow(), 1<<15)
	for _, p := range []api.Pred{and(slices.Repeat([]api.Pred{a}, 1<<17)...), far, itself[0], not(itself[1])} {
		wantError(t, columns(), p, plainRow(), api.ErrArg)
		wantError(t, columns(), p, long, api.ErrArg)
	}
	wantError(t, columns(), a, long, api.ErrType)
	wantError(t, columns(), a, row(n(1), n(1), s(x(1<<20)), null, null, null), api.ErrType)
	wantError(t, slices.Repeat(columns(), 1<<10), a, plainRow(), api.ErrArg)
}

func TestColumnsAlone(t *testing.T) { // P20.2
	for _, col := range columns() {
		for _, r := range [][]api.Cell{nil, {n(0)}, {n(1)}, {n(7)}, {s("x")}, {null}, {null, null}, {n(1), n(1)}} {
			got, err := eval.Row([]api.Col{col}, not(isNull(col.Name)), r)
			if !schema.Row([]api.Col{col}, r) {
				if got != 0 || err != api.ErrType {
					t.Errorf("%+v of %+v is %d and error %d", r, col, got, err)
				}
				continue
			}
			if got != truthOf(!r[0].Null) || err != api.OK {
				t.Errorf("%+v of %+v is %d and error %d", r, col, got, err)
			}
		}
	}
}

// copyOf is p, sharing nothing.
func copyOf(p api.Pred) api.Pred {
	kids := p.Kids
	p.Kids = nil
	for _, kid := range kids {
		p.Kids = append(p.Kids, copyOf(kid))
	}
	return p
}

func TestNothingChanged(t *testing.T) { // rules 3 and 4
	drawn(t, 3, 5, func(cols []api.Col, p api.Pred, rows [][]api.Cell) {
		oldCols, oldPred, oldRows := slices.Clone(cols), copyOf(p), make([][]api.Cell, len(rows))
		for i, r := range rows {
			oldRows[i] = slices.Clone(r)
		}
		first, _ := eval.Rows(cols, p, rows)
		kept := slices.Clone(first)
		all := first[:cap(first)]
		for i := range all {
			all[i] = -1
		}
		again, err := eval.Rows(cols, p, rows)
		if !slices.Equal(again, kept) || err != api.OK {
			t.Fatalf("Rows(%q) = %v, and then %v with error %d", pred.Text(p), kept, again, err)
		}
		if !slices.Equal(cols, oldCols) || !reflect.DeepEqual(p, oldPred) || len(rows) > 0 && !reflect.DeepEqual(rows, oldRows) {
			t.Fatalf("what was handed in, %+v, %+v, %+v, was changed", oldCols, oldPred, oldRows)
		}
	})
}
