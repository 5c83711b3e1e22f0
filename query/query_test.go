package query_test

import (
	"fmt"
	"math"
	"reflect"
	"slices"
	"strings"
	"testing"

	"firkin/api"
	"firkin/pred"
	"firkin/query"
	"firkin/schema"
	"firkin/word"
)

// x is a name of so many bytes.
func x(size int) string { return strings.Repeat("x", size) }

// The predicates that the tests ask.
func every() api.Pred { return api.Pred{Op: api.PrAll} }
func num(col string, i int64) api.Pred {
	return api.Pred{Op: api.PrCmp, Col: col, Cmp: api.CmpGt, Kind: api.TyInt, Val: api.Cell{I: i}}
}
func isNull(col string) api.Pred        { return api.Pred{Op: api.PrNull, Col: col} }
func like(col, pattern string) api.Pred { return api.Pred{Op: api.PrLike, Col: col, Pat: pattern} }
func not(kid api.Pred) api.Pred         { return api.Pred{Op: api.PrNot, Kids: []api.Pred{kid}} }
func and(kids ...api.Pred) api.Pred     { return api.Pred{Op: api.PrAnd, Kids: kids} }
func or(kids ...api.Pred) api.Pred      { return api.Pred{Op: api.PrOr, Kids: kids} }

// The aggregates.
func count() api.Agg                     { return api.Agg{Op: api.AgCount} }
func agg(op int, col string) api.Agg     { return api.Agg{Op: op, Col: col} }
func sum(col string) api.Agg             { return agg(api.AgSum, col) }
func aggs(list ...api.Agg) []api.Agg     { return list }
func names(list ...string) []string      { return list }
func places(list ...int) []int           { return list }
func many(size int, a api.Agg) []api.Agg { return slices.Repeat(aggs(a), size) }

// plain and fold are the two kinds of queries, of the table t.
func plain(where api.Pred, cols ...string) api.Query {
	return api.Query{Table: "t", Cols: cols, Where: where}
}
func fold(where api.Pred, by string, list ...api.Agg) api.Query {
	return api.Query{Table: "t", Where: where, Aggs: list, By: by}
}

// columns are those that the tests' queries are asked of: two numbers, a truth, two texts, and a number whose name begins as another one.
func columns() []api.Col {
	return []api.Col{
		{Name: "d", Type: api.TyInt}, {Name: "b", Type: api.TyBool, Null: true}, {Name: "a", Type: api.TyInt, Null: true},
		{Name: "c", Type: api.TyText}, {Name: "e", Type: api.TyText, Null: true}, {Name: "aa", Type: api.TyInt},
	}
}

// mayByRule is what the chapter says of q, each field by itself.
func mayByRule(q api.Query) bool {
	if !schema.Name(q.Table) || !pred.May(q.Where) {
		return false
	}
	seen := map[string]bool{}
	for _, name := range q.Cols {
		if !schema.Name(name) || seen[name] {
			return false
		}
		seen[name] = true
	}
	for _, a := range q.Aggs {
		switch a.Op {
		case 1:
			if a.Col != "" {
				return false
			}
		case 2, 3, 4, 5:
			if !schema.Name(a.Col) {
				return false
			}
		default:
			return false
		}
	}
	if len(q.Aggs) == 0 {
		return q.By == "" && len(q.Cols) <= 6
	}
	return len(q.Cols) == 0 && len(q.Aggs) <= 4 && (q.By == "" || schema.Name(q.By))
}

// fitsByRule is what the chapter says of q and cols.
func fitsByRule(cols []api.Col, q api.Query) api.Errno {
	if !mayByRule(q) || schema.Check(cols) != 0 {
		return 1
	}
	types := map[string]int{}
	for _, c := range cols {
		types[c.Name] = c.Type
	}
	if pred.Fits(cols, q.Where) != 0 || q.By != "" && types[q.By] == 0 {
		return 10
	}
	for _, name := range q.Cols {
		if types[name] == 0 {
			return 10
		}
	}
	for _, a := range q.Aggs {
		if a.Op != 1 && types[a.Col] == 0 || a.Op == 3 && types[a.Col] != 1 {
			return 10
		}
	}
	return 0
}

// aggByRule is what is written for a, and its head.
func aggByRule(a api.Agg) string {
	if a.Op == 1 {
		return "count(*)"
	}
	return strings.Fields("- - has sum min max")[a.Op] + "(" + a.Col + ")"
}

// namesByRule is the heads of the answer to q, which fits.
func namesByRule(cols []api.Col, q api.Query) []string {
	var heads []string
	if len(q.Aggs) == 0 && len(q.Cols) == 0 {
		for _, c := range cols {
			heads = append(heads, c.Name)
		}
	}
	heads = append(heads, q.Cols...)
	if q.By != "" {
		heads = append(heads, q.By)
	}
	for _, a := range q.Aggs {
		heads = append(heads, aggByRule(a))
	}
	return heads
}

// needsByRule is the places of the columns that stand in q, which fits.
func needsByRule(cols []api.Col, q api.Query) []int {
	var at []int
	asked := pred.Cols(q.Where)
	for i, c := range cols {
		stands := slices.Contains(q.Cols, c.Name) || slices.Contains(asked, c.Name) || q.By == c.Name ||
			slices.ContainsFunc(q.Aggs, func(a api.Agg) bool { return a.Col == c.Name })
		if stands || len(q.Cols) == 0 && len(q.Aggs) == 0 {
			at = append(at, i)
		}
	}
	return at
}

// textByRule is the text of q, which may be.
func textByRule(q api.Query) string {
	text := "select"
	between := " "
	for _, name := range q.Cols {
		text += between + name
		between = ", "
	}
	for _, a := range q.Aggs {
		text += between + aggByRule(a)
		between = ", "
	}
	if between == " " {
		text += " *"
	}
	text += " from " + q.Table
	if q.Where.Op != 1 {
		text += " where " + pred.Text(q.Where)
	}
	if q.By != "" {
		text += " group by " + q.By
	}
	return text
}

// wantRight is whether q may be; all calls must be right of it, as the chapter says it.
func wantRight(t *testing.T, cols []api.Col, q api.Query) bool {
	t.Helper()
	may, fits := mayByRule(q), fitsByRule(cols, q)
	if got := query.May(q); got != may {
		t.Fatalf("May(%+v) = %v", q, got)
	}
	if got := query.Fits(cols, q); got != fits {
		t.Fatalf("Fits(%+v, %+v) = %d, want %d", cols, q, got, fits)
	}
	text := ""
	if may {
		text = textByRule(q)
	}
	if got := query.Text(q); got != text {
		t.Fatalf("Text(%+v) = %q, want %q", q, got, text)
	}
	var heads []string
	var needs []int
	if fits == 0 {
		heads, needs = namesByRule(cols, q), needsByRule(cols, q)
	}
	if got := query.Names(cols, q); !slices.Equal(got, heads) {
		t.Fatalf("Names(%+v, %+v) = %q, want %q", cols, q, got, heads)
	}
	if got := query.Needs(cols, q); !slices.Equal(got, needs) {
		t.Fatalf("Needs(%+v, %+v) = %v, want %v", cols, q, got, needs)
	}
	return may
}

// source draws numbers by a rule.
type source uint32

// below is the next number, below n.
func (s *source) below(n int) int {
	*s = *s*1664525 + 1013904223
	return int(*s>>8) % n
}

// one is one of list.
func one[T any](s *source, list ...T) T { return list[s.below(len(list))] }

// name draws a name of a column, at times one that no column has, seldom a text that is none.
func (s *source) name() string {
	switch s.below(40) {
	case 0:
		return one(s, "", "A", "sum", "1a", x(13), "a b")
	case 1, 2:
		return one(s, "z", "ab", x(12))
	}
	return one(s, "a", "aa", "b", "c", "d", "e")
}

// where draws a predicate, at times one that doesn't fit, seldom one that may not be.
func (s *source) where(levels int) api.Pred {
	if levels > 1 && s.below(2) == 0 {
		return one(s, not(s.where(levels-1)), and(s.where(1), or(s.where(1), s.where(1))), or(s.where(1), and(s.where(1), s.where(1))))
	}
	switch s.below(12) {
	case 0:
		return one(s, api.Pred{}, and(every()), num("", 1), num("A", 1), api.Pred{Op: 8})
	case 1, 2, 3:
		return num(s.name(), int64(s.below(9)-4))
	case 4, 5:
		return isNull(s.name())
	case 6:
		return like(s.name(), one(s, "", "x%", "it's"))
	}
	return every()
}

// query draws a query, of which many may be, and many of those fit.
func (s *source) query() api.Query {
	q := api.Query{Table: one(s, "t", "t", "t", "t2", "u", x(12)), Where: s.where(2)}
	if s.below(30) == 0 {
		q.Table = one(s, "", "T", "from", x(13))
	}
	kind := s.below(20)
	if kind < 10 || kind == 19 {
		for range s.below(5) + s.below(4) {
			q.Cols = append(q.Cols, s.name())
		}
		slices.Sort(q.Cols)
		if s.below(4) > 0 {
			q.Cols = slices.Compact(q.Cols)
		}
	}
	if kind >= 10 {
		for range 1 + s.below(4) + s.below(2) {
			q.Aggs = append(q.Aggs, one(s, count(), agg(2+s.below(4), s.name()), sum(one(s, "a", "aa", "d")), agg(2, "b")))
		}
		if s.below(20) == 0 {
			q.Aggs[0] = one(s, agg(1, "a"), agg(0, "a"), agg(6, "a"), agg(-1, "a"), agg(0, ""), agg(3, ""))
		}
	}
	if kind >= 10 && s.below(2) == 0 || s.below(20) == 0 {
		q.By = s.name()
	}
	return q
}

// whole is some queries that may be, of all kinds, each unlike the others.
func whole() []api.Query {
	var list []api.Query
	tables := names("t", "t2", x(12))
	wheres := []api.Pred{every(), num("a", 5), not(every()), isNull("b"), like("c", "' group by a"), and(num("a", 5), or(isNull("b"), isNull("a")))}
	cols := [][]string{nil, {"a"}, {"b"}, {"aa"}, {"a", "b"}, {"b", "a"}, {"d", "b", "a", "c", "e", "aa"}}
	folds := [][]api.Agg{{count()}, {count(), count()}, many(4, count()), {agg(2, "a")}, {agg(2, "b")}, {sum("a")}, {agg(4, "a")}, {agg(5, "a")}, {sum("a"), sum("a")},
		{count(), sum("a")}, {sum("a"), count()}, {agg(2, "b"), agg(4, "b"), agg(5, "b"), sum("d")}, {sum("aa")}}
	for _, table := range tables {
		for _, where := range wheres {
			for _, c := range cols {
				list = append(list, api.Query{Table: table, Where: where, Cols: c})
			}
			for _, f := range folds {
				for _, by := range names("", "a", "b", "aa") {
					list = append(list, api.Query{Table: table, Where: where, Aggs: f, By: by})
				}
			}
		}
	}
	return list
}

// copyOf is q, sharing no list of its own (its predicate is never changed here).
func copyOf(q api.Query) api.Query {
	q.Cols, q.Aggs = slices.Clone(q.Cols), slices.Clone(q.Aggs)
	return q
}

// changes is queries that are unlike q in one thing each.
func changes(q api.Query) []api.Query {
	var list []api.Query
	change := func(do func(q *api.Query)) {
		c := copyOf(q)
		do(&c)
		list = append(list, c)
	}
	change(func(q *api.Query) { q.Table += "x" })
	change(func(q *api.Query) { q.By += "x" })
	change(func(q *api.Query) { q.Where = not(q.Where) })
	change(func(q *api.Query) { q.Cols = append(q.Cols, "x") })
	change(func(q *api.Query) { q.Aggs = append(q.Aggs, count()) })
	for i := range q.Cols {
		change(func(q *api.Query) { q.Cols[i] += "x" })
		change(func(q *api.Query) { q.Cols = slices.Delete(q.Cols, i, i+1) })
	}
	for i := range q.Aggs {
		change(func(q *api.Query) { q.Aggs[i].Op++ })
		change(func(q *api.Query) { q.Aggs[i].Col += "x" })
		change(func(q *api.Query) { q.Aggs = slices.Delete(q.Aggs, i, i+1) })
	}
	if len(q.Cols) > 1 && q.Cols[0] != q.Cols[len(q.Cols)-1] {
		change(func(q *api.Query) { slices.Reverse(q.Cols) })
	}
	return list
}

// P18.1
func TestMayKnown(t *testing.T) {
	six := names("a", "b", "c", "d", "e", "f")
	for _, q := range []api.Query{
		plain(every()), plain(every(), "a"), plain(num("zz", 1), six...), plain(every(), x(12)),
		fold(every(), "", count()), fold(every(), "b", count()), fold(every(), "", many(4, count())...),
		fold(every(), "b", agg(2, "a"), agg(3, "a"), agg(4, "a"), agg(5, "a")), fold(isNull("a"), "a", sum("a"), sum("a")),
		{Table: x(12), Where: every()}, {Table: "t", Where: every(), Cols: []string{}, Aggs: aggs(count())}, {Table: "t", Where: every(), Cols: names("a"), Aggs: []api.Agg{}},
	} {
		if !query.May(q) {
			t.Errorf("May(%+v) is false", q)
		}
	}
	for _, q := range []api.Query{
		{}, {Table: "t"}, {Where: every()}, {Table: "T", Where: every()}, {Table: "select", Where: every()}, {Table: x(13), Where: every()},
		plain(api.Pred{}), plain(and(every())), plain(api.Pred{Op: 1, Col: "a"}),
		plain(every(), append(six, "g")...), plain(every(), "a", "a"), plain(every(), "a", "b", "a"), plain(every(), ""), plain(every(), "a", ""), plain(every(), "A"), plain(every(), "by"), plain(every(), x(13)), plain(every(), "*"), plain(every(), "count(*)"),
		{Table: "t", Where: every(), By: "a"}, {Table: "t", Where: every(), Cols: names("a"), By: "a"},
		{Table: "t", Where: every(), Cols: names("a"), Aggs: aggs(count())}, {Table: "t", Where: every(), Cols: names("a"), Aggs: aggs(count()), By: "a"},
		fold(every(), "", many(5, count())...), fold(every(), "A", count()), fold(every(), "all", count()), fold(every(), x(13), count()), fold(api.Pred{}, "", count()),
		fold(every(), "", agg(1, "a")), fold(every(), "", count(), agg(1, "a")), fold(every(), "", agg(0, "")), fold(every(), "", agg(0, "a")), fold(every(), "", agg(6, "a")), fold(every(), "", agg(-1, "a")), fold(every(), "", agg(6, "")),
		fold(every(), "", agg(2, "")), fold(every(), "", agg(3, "")), fold(every(), "", agg(4, "")), fold(every(), "", agg(5, "")), fold(every(), "", agg(2, "A")), fold(every(), "", agg(5, "*")), fold(every(), "", agg(4, x(13))),
		fold(every(), "", agg(math.MinInt, "a")), fold(every(), "", agg(math.MaxInt, "a")),
	} {
		if query.May(q) || query.Fits(columns(), q) != api.ErrArg || query.Text(q) != "" || len(query.Names(columns(), q)) != 0 || len(query.Needs(columns(), q)) != 0 {
			t.Errorf("%+v may be", q)
		}
	}
}

// P18.1: each kind of aggregate with each kind of column, alone, ahead of and behind a right one.
func TestMayAggs(t *testing.T) {
	for op := -2; op <= 8; op++ {
		for _, col := range names("", "a", "A", "sum", x(12), x(13), "*") {
			a := agg(op, col)
			wantRight(t, columns(), fold(every(), "", a))
			wantRight(t, columns(), fold(every(), "a", count(), a))
			wantRight(t, columns(), fold(every(), "a", a, count(), sum("a"), a))
		}
	}
}

// P18.1, P18.2, P18.3: how many Cols and Aggs there are, with By and without.
func TestCounts(t *testing.T) {
	all := names("a", "aa", "b", "c", "d", "e", "f", "g")
	for cols := range 9 {
		for folds := range 7 {
			for _, by := range names("", "b", "B") {
				q := api.Query{Table: "t", Where: every(), Cols: all[:cols], Aggs: many(folds, agg(2, "a")), By: by}
				may := cols == 0 && folds > 0 && folds <= 4 && by != "B" || folds == 0 && by == "" && cols <= 6
				if wantRight(t, columns(), q) != may {
					t.Fatalf("May(%+v) is not %v", q, may)
				}
			}
		}
	}
}

// P18.2
func TestFitsKnown(t *testing.T) {
	cols := columns()
	for _, c := range []struct {
		q    api.Query
		want api.Errno
	}{
		{plain(every()), api.OK}, {plain(every(), "a", "d"), api.OK}, {plain(num("a", 1), "c"), api.OK}, {fold(every(), "c", count(), sum("a"), agg(2, "b"), agg(5, "e")), api.OK},
		{fold(every(), "b", agg(4, "b")), api.OK}, {fold(every(), "", sum("aa")), api.OK},
		{plain(every(), "z"), api.ErrType}, {plain(every(), "a", "z"), api.ErrType}, {plain(every(), "z", "a"), api.ErrType}, {plain(num("z", 1)), api.ErrType}, {plain(num("c", 1)), api.ErrType}, {plain(like("a", "x"), "a"), api.ErrType},
		{fold(every(), "z", count()), api.ErrType}, {fold(every(), "", agg(2, "z")), api.ErrType}, {fold(every(), "", sum("z")), api.ErrType}, {fold(every(), "", agg(4, "z")), api.ErrType}, {fold(every(), "", agg(5, "z")), api.ErrType},
		{fold(every(), "", count(), agg(5, "z")), api.ErrType}, {fold(every(), "", agg(5, "z"), count()), api.ErrType},
		{fold(every(), "", sum("b")), api.ErrType}, {fold(every(), "", sum("c")), api.ErrType}, {fold(every(), "", sum("a"), sum("e")), api.ErrType}, {fold(isNull("z"), "", count()), api.ErrType},
		{plain(api.Pred{}, "z"), api.ErrArg}, {fold(every(), "z", agg(0, "a")), api.ErrArg}, {api.Query{}, api.ErrArg},
	} {
		if got := query.Fits(cols, c.q); got != c.want {
			t.Errorf("Fits(%+v) = %d, want %d", c.q, got, c.want)
		}
		if c.want != api.OK && (len(query.Names(cols, c.q)) != 0 || len(query.Needs(cols, c.q)) != 0) {
			t.Errorf("%+v has names or needs", c.q)
		}
		wantRight(t, cols, c.q)
	}
}

// P18.2: columns that may not be are told ahead of types.
func TestFitsWrongColumns(t *testing.T) {
	int1 := func(name string) api.Col { return api.Col{Name: name, Type: api.TyInt} }
	for _, cols := range [][]api.Col{
		nil, {}, {int1("")}, {int1("A")}, {int1("a"), int1("a")}, {{Name: "a"}}, {{Name: "a", Type: 4}}, {{Name: "a", Type: -1}}, {int1("and")},
		append(columns(), int1("g")), append(columns(), int1("a")),
	} {
		for _, q := range []api.Query{plain(every()), plain(every(), "a"), plain(every(), "z"), plain(isNull("z")), fold(every(), "", count()), fold(every(), "a", sum("a")), {}} {
			if got := query.Fits(cols, q); got != api.ErrArg || len(query.Names(cols, q)) != 0 || len(query.Needs(cols, q)) != 0 {
				t.Errorf("Fits(%+v, %+v) = %d", cols, q, got)
			}
		}
	}
	one := []api.Col{int1("a")}
	if query.Fits(one, plain(every())) != api.OK || query.Fits(one, fold(every(), "", count())) != api.OK {
		t.Error("a table of one column")
	}
}

// P18.2: each aggregate of a column of each type.
func TestFitsTypes(t *testing.T) {
	for op := api.AgHas; op <= api.AgMax; op++ {
		for _, c := range columns() {
			want := api.OK
			if op == api.AgSum && c.Type != api.TyInt {
				want = api.ErrType
			}
			for _, list := range [][]api.Agg{{agg(op, c.Name)}, {count(), agg(op, c.Name)}, {agg(op, c.Name), sum("a"), count()}} {
				if got := query.Fits(columns(), fold(every(), "", list...)); got != want {
					t.Errorf("Fits(%+v) = %d, want %d", list, got, want)
				}
			}
		}
	}
}

// P18.2
func TestNamesKnown(t *testing.T) {
	for _, c := range []struct {
		q    api.Query
		want []string
	}{
		{plain(every()), names("d", "b", "a", "c", "e", "aa")}, {plain(num("a", 5)), names("d", "b", "a", "c", "e", "aa")},
		{plain(every(), "a"), names("a")}, {plain(isNull("b"), "e", "a", "d"), names("e", "a", "d")},
		{fold(every(), "", count()), names("count(*)")}, {fold(every(), "b", count()), names("b", "count(*)")},
		{fold(num("a", 5), "b", agg(5, "c"), agg(4, "a"), sum("aa"), agg(2, "b")), names("b", "max(c)", "min(a)", "sum(aa)", "has(b)")},
		{fold(every(), "", sum("a"), sum("a"), count(), count()), names("sum(a)", "sum(a)", "count(*)", "count(*)")},
		{plain(every(), "z"), nil}, {plain(num("z", 5)), nil}, {fold(every(), "", sum("c")), nil}, {api.Query{}, nil},
	} {
		if got := query.Names(columns(), c.q); !slices.Equal(got, c.want) {
			t.Errorf("Names(%+v) = %q, want %q", c.q, got, c.want)
		}
	}
}

// P18.2
func TestNeedsKnown(t *testing.T) {
	for _, c := range []struct {
		q    api.Query
		want []int
	}{
		{plain(every()), places(0, 1, 2, 3, 4, 5)}, {plain(num("a", 5)), places(0, 1, 2, 3, 4, 5)},
		{plain(every(), "aa"), places(5)}, {plain(every(), "aa", "d"), places(0, 5)}, {plain(num("a", 5), "aa", "d"), places(0, 2, 5)}, {plain(num("a", 5), "a"), places(2)},
		{plain(or(isNull("e"), and(isNull("b"), not(isNull("e")))), "c"), places(1, 3, 4)},
		{fold(every(), "", count()), nil}, {fold(every(), "c", count()), places(3)}, {fold(num("aa", 1), "", count()), places(5)},
		{fold(num("aa", 1), "b", agg(5, "c"), agg(2, "c"), sum("d")), places(0, 1, 3, 5)}, {fold(isNull("a"), "a", sum("a")), places(2)},
		{fold(every(), "", agg(2, "e")), places(4)}, {plain(every(), "z"), nil}, {api.Query{}, nil},
	} {
		if got := query.Needs(columns(), c.q); !slices.Equal(got, c.want) {
			t.Errorf("Needs(%+v) = %v, want %v", c.q, got, c.want)
		}
	}
}

// P18.2: whichever columns stand in Cols, Where, Aggs and By.
func TestNeedsAll(t *testing.T) {
	cols := columns()
	pick := func(set int) []string {
		var list []string
		for i, c := range cols {
			if set>>i&1 == 1 {
				list = append(list, c.Name)
			}
		}
		return list
	}
	for set := range 64 {
		for other := range 64 {
			where := every()
			for _, name := range pick(other) {
				if where.Op == api.PrAll {
					where = isNull(name)
				} else {
					where = not(or(isNull(name), not(where)))
				}
			}
			q := plain(where, pick(set)...)
			slices.Reverse(q.Cols)
			wantRight(t, cols, q)
			f := fold(where, "")
			for _, name := range pick(set & 31) {
				f.Aggs = append(f.Aggs, agg(api.AgMin, name))
			}
			if set > 31 {
				f.By = "aa"
			}
			wantRight(t, cols, f)
		}
	}
}

// P18.3
func TestTextKnown(t *testing.T) {
	for _, c := range []struct {
		q    api.Query
		want string
	}{
		{fold(num("a", 5), "b", count(), sum("a")), "select count(*), sum(a) from t where a > 5 group by b"},
		{plain(every()), "select * from t"}, {plain(every(), "a"), "select a from t"}, {plain(every(), "b", "a", "zz"), "select b, a, zz from t"},
		{plain(num("a", -5)), "select * from t where a > -5"}, {plain(isNull("b"), "a"), "select a from t where b is null"},
		{plain(not(every())), "select * from t where not all"}, {plain(or(num("a", 1), like("c", "it's%"))), "select * from t where a > 1 or c like 'it''s%'"},
		{fold(every(), "", count()), "select count(*) from t"}, {fold(every(), "b", count()), "select count(*) from t group by b"},
		{fold(isNull("b"), "", agg(2, "a"), agg(3, "a"), agg(4, "a"), agg(5, "a")), "select has(a), sum(a), min(a), max(a) from t where b is null"},
		{api.Query{Table: x(12), Where: every(), Aggs: aggs(agg(5, x(11))), By: x(12)}, "select max(xxxxxxxxxxx) from xxxxxxxxxxxx group by xxxxxxxxxxxx"},
		{api.Query{}, ""}, {plain(api.Pred{}), ""}, {plain(every(), "a", "a"), ""}, {fold(every(), "", agg(0, "a")), ""},
	} {
		if got := query.Text(c.q); got != c.want {
			t.Errorf("Text(%+v) = %q, want %q", c.q, got, c.want)
		}
	}
}

// P18.3: a text may be longer than a query that is read may be.
func TestTextLong(t *testing.T) {
	long := api.Pred{Op: api.PrOr, Kids: slices.Repeat([]api.Pred{like("c", strings.Repeat("'", 40))}, 15)}
	text := query.Text(plain(long, "a"))
	if len(text) < 2*api.MaxQuery || text != "select a from t where "+pred.Text(long) {
		t.Errorf("%q", text)
	}
}

// P18.1, P18.2, P18.3
func TestByRule(t *testing.T) {
	s := source(18)
	may, fit := 0, 0
	for range 60000 {
		q := s.query()
		if wantRight(t, columns(), q) {
			may++
		}
		if fitsByRule(columns(), q) == 0 {
			fit++
		}
	}
	for _, q := range whole() {
		if !wantRight(t, columns(), q) {
			t.Fatalf("%+v may not be", q)
		}
		wantRight(t, columns()[1:], q)
		wantRight(t, columns()[:3], q)
	}
	if may < 20000 || may > 50000 || fit < 10000 {
		t.Fatalf("of the drawn queries %d may be, and %d fit", may, fit)
	}
}

// P18.2
func TestSame(t *testing.T) {
	s := source(1)
	list := whole()[:60]
	for range 300 {
		list = append(list, s.query())
	}
	for _, q := range list {
		if !query.Same(q, copyOf(q)) {
			t.Fatalf("%+v is not the same", q)
		}
		for _, c := range changes(q) {
			if query.Same(q, c) || query.Same(c, q) {
				t.Fatalf("%+v and %+v are the same", q, c)
			}
		}
		for _, c := range list {
			if query.Same(q, c) != (fmt.Sprintf("%#v", bare(q)) == fmt.Sprintf("%#v", bare(c))) {
				t.Fatalf("Same(%+v, %+v)", q, c)
			}
		}
	}
	empty := api.Query{Cols: []string{}, Aggs: []api.Agg{}, Where: api.Pred{Kids: []api.Pred{}}}
	if !query.Same(api.Query{}, empty) || !query.Same(empty, api.Query{}) {
		t.Error("nil and empty lists are not the same")
	}
	deep := plain(not(num("a", 5)), "a")
	if query.Same(deep, plain(not(num("a", 6)), "a")) || !query.Same(deep, plain(not(num("a", 5)), "a")) {
		t.Error("a predicate within")
	}
}

// bare is q with nil for empty lists.
func bare(q api.Query) api.Query {
	if len(q.Cols) == 0 {
		q.Cols = nil
	}
	if len(q.Aggs) == 0 {
		q.Aggs = nil
	}
	return q
}

// P18.4
func TestUnlikeTexts(t *testing.T) {
	seen := map[string]api.Query{}
	add := func(q api.Query) {
		if !query.May(q) {
			return
		}
		text := query.Text(q)
		if other, ok := seen[text]; ok && !query.Same(q, other) || text == "" {
			t.Fatalf("%+v and %+v are both %q", q, other, text)
		}
		seen[text] = q
	}
	for _, q := range whole() {
		add(q)
		for _, c := range changes(q) {
			add(c)
		}
	}
	if len(seen) < len(whole()) {
		t.Fatalf("%d texts of %d queries", len(seen), len(whole()))
	}
	s := source(4)
	for range 40000 {
		add(s.query())
	}
}

// P18.4: the tokens of a text tell the whole query.
func TestTextTellsAll(t *testing.T) {
	s := source(5)
	list := whole()
	for range 5000 {
		if q := s.query(); query.May(q) {
			list = append(list, q)
		}
	}
	for _, q := range list {
		tokens, _, err := word.All(query.Text(q))
		if err != api.OK {
			t.Fatalf("%q has error %d", query.Text(q), err)
		}
		if back := readBack(tokens); back.Table != q.Table || back.By != q.By || !slices.Equal(back.Cols, q.Cols) || !slices.Equal(back.Aggs, q.Aggs) {
			t.Fatalf("%q is read as %+v, but for its Where", query.Text(q), back)
		}
	}
}

// readBack is the query of which tokens are, but for its Where.
func readBack(tokens []word.Token) api.Query {
	var q api.Query
	at := 1
	for tokens[at].S != "from" {
		k, open := tokens[at], tokens[at+1]
		switch {
		case open.S == "(":
			a := api.Agg{Op: slices.Index(names("", "count", "has", "sum", "min", "max"), k.S)}
			if c := tokens[at+2]; c.Kind == word.Name {
				a.Col = c.S
			}
			q.Aggs = append(q.Aggs, a)
			at += 3
		case k.Kind == word.Name:
			q.Cols = append(q.Cols, k.S)
		}
		at++
	}
	q.Table = tokens[at+1].S
	if last := tokens[len(tokens)-4:]; last[0].S == "group" && last[1].S == "by" && last[0].Kind == word.Name {
		q.By = last[2].S
	}
	return q
}

// P18.2: what is handed in is not changed, and what is answered shares nothing with it.
func TestSharesNothing(t *testing.T) {
	for _, q := range whole() {
		cols, kept := columns(), copyOf(q)
		q.Cols = append(make([]string, 0, 20), q.Cols...)
		q.Aggs = append(make([]api.Agg, 0, 20), q.Aggs...)
		heads, needs := query.Names(cols, q), query.Needs(cols, q)
		again, places := slices.Clone(heads), slices.Clone(needs)
		query.Text(q)
		for i := range heads {
			heads[i] = "zz"
		}
		for i := range needs {
			needs[i] = -1
		}
		_ = append(heads, "zz")
		if !query.Same(q, kept) || !reflect.DeepEqual(cols, columns()) {
			t.Fatalf("%+v is now %+v, of %+v", kept, q, cols)
		}
		if rest := q.Cols[len(q.Cols):20]; slices.ContainsFunc(rest, func(s string) bool { return s != "" }) {
			t.Fatalf("behind the Cols of %+v there is %q", kept, rest)
		}
		if rest := q.Aggs[len(q.Aggs):20]; slices.ContainsFunc(rest, func(a api.Agg) bool { return a != api.Agg{} }) {
			t.Fatalf("behind the Aggs of %+v there is %+v", kept, rest)
		}
		if !slices.Equal(query.Names(cols, q), again) || !slices.Equal(query.Needs(cols, q), places) {
			t.Fatalf("another answer to %+v", q)
		}
	}
}

// P18.2: the answer doesn't hang on the order in which what is needed was noted.
func TestNeedsOrder(t *testing.T) {
	q := plain(and(isNull("aa"), isNull("a")), "e", "d", "c", "b")
	for range 200 {
		if got := query.Needs(columns(), q); !slices.Equal(got, places(0, 1, 2, 3, 4, 5)) {
			t.Fatalf("Needs = %v", got)
		}
	}
}

// P18.1, P18.2, P18.3: all calls end at lists that are far too long, at texts that are no text, and at predicates that have themselves within them.
func TestGreat(t *testing.T) {
	round := not(every())
	round.Kids[0] = round
	great := slices.Repeat(names("a"), 1<<20)
	for _, q := range []api.Query{
		plain(round), fold(round, "a", count()), plain(every(), great...), fold(every(), "", many(1<<20, count())...),
		{Table: strings.Repeat("a", 1<<20), Where: every()}, plain(every(), "\xff"), {Table: "\xff", Where: every()},
		fold(every(), strings.Repeat("a", 1<<20), count()), fold(every(), "", sum(strings.Repeat("a", 1<<20))),
	} {
		if query.May(q) || query.Fits(columns(), q) != api.ErrArg || query.Text(q) != "" || len(query.Names(columns(), q)) != 0 || len(query.Needs(columns(), q)) != 0 {
			t.Fatal("a query too great may be")
		}
	}
	if query.Fits(slices.Repeat(columns(), 1<<16), plain(every())) != api.ErrArg {
		t.Error("columns too many fit")
	}
}
