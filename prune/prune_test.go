package prune_test

import (
	"math"
	"reflect"
	"slices"
	"strings"
	"testing"

	"firkin/api"
	"firkin/cell"
	"firkin/eval"
	"firkin/pred"
	"firkin/prune"
	"firkin/zone"
)

var null = api.Cell{Null: true}

// The cells of a number or a truth, and of a text.
func n(i int64) api.Cell  { return api.Cell{I: i} }
func s(t string) api.Cell { return api.Cell{S: t} }

// x is a text of so many bytes.
func x(size int) string { return strings.Repeat("x", size) }

// The predicates of each kind.
func every() api.Pred { return api.Pred{Op: api.PrAll} }
func compare(col string, comparison, kind int, val api.Cell) api.Pred {
	return api.Pred{Op: api.PrCmp, Col: col, Cmp: comparison, Kind: kind, Val: val}
}
func num(col string, comparison int, i int64) api.Pred {
	return compare(col, comparison, api.TyInt, n(i))
}
func isNull(col string) api.Pred        { return api.Pred{Op: api.PrNull, Col: col} }
func like(col, pattern string) api.Pred { return api.Pred{Op: api.PrLike, Col: col, Pat: pattern} }
func not(kid api.Pred) api.Pred         { return api.Pred{Op: api.PrNot, Kids: []api.Pred{kid}} }
func and(kids ...api.Pred) api.Pred     { return api.Pred{Op: api.PrAnd, Kids: kids} }
func or(kids ...api.Pred) api.Pred      { return api.Pred{Op: api.PrOr, Kids: kids} }

// truths is the ones that its letters begin: y, n, m.
func truths(letters string) prune.Truths {
	return prune.Truths{Yes: strings.Contains(letters, "y"), No: strings.Contains(letters, "n"), Maybe: strings.Contains(letters, "m")}
}

// spanned is the zone of so many cells, so many of them null, from low to high.
func spanned(rows, nulls int, low, high api.Cell) api.Zone {
	return api.Zone{Rows: rows, Nulls: nulls, Low: low, High: high}
}

// rising is some values of each type, rising.
func rising(ty int) []api.Cell {
	switch ty {
	case api.TyInt:
		return []api.Cell{n(math.MinInt64), n(math.MinInt64 + 1), n(-1 << 32), n(-10), n(-1), n(0), n(1), n(9), n(10), n(1<<32 + 1), n(math.MaxInt64 - 1), n(math.MaxInt64)}
	case api.TyBool:
		return []api.Cell{n(0), n(1)}
	}
	return []api.Cell{s(""), s("\x00"), s("10"), s("9"), s("A"), s("a"), s("a\x00"), s("ab"), s("b"), s(x(39)), s(x(40)), s("ä"), s("\xff")}
}

// agrees is whether two things in that order (below 0, 0, above 0) are as that comparison says, by the places of the comparisons' marks.
func agrees(comparison, order int) bool {
	sign := min(max(order, -1), 1)
	return strings.Contains([]string{"", "=", "<>", "<", "<=", ">", ">="}[comparison], "<=>"[sign+1:sign+2])
}

// ask wants Ask to answer these truths, and Skip to go by them.
func ask(t *testing.T, cols []api.Col, p api.Pred, zones []api.Zone, want prune.Truths) {
	t.Helper()
	got, err := prune.Ask(cols, p, zones)
	if got != want || err != api.OK {
		t.Errorf("Ask(%+v, %q, %+v) = %+v and error %d, want %+v", cols, pred.Text(p), zones, got, err, want)
	}
	if skip := prune.Skip(cols, p, zones); skip == want.Yes {
		t.Errorf("Skip(%+v, %q, %+v) = %v, of %+v", cols, pred.Text(p), zones, skip, want)
	}
}

// askOne is ask of one column a of that type, that may be null.
func askOne(t *testing.T, ty int, p api.Pred, z api.Zone, want prune.Truths) {
	t.Helper()
	ask(t, []api.Col{{Name: "a", Type: ty, Null: true}}, p, []api.Zone{z}, want)
}

// fails wants Ask to answer that error and nothing else, and Skip false.
func fails(t *testing.T, cols []api.Col, p api.Pred, zones []api.Zone, want api.Errno) {
	t.Helper()
	if got, err := prune.Ask(cols, p, zones); got != (prune.Truths{}) || err != want {
		t.Errorf("Ask(%+v, %+v, %+v) = %+v and error %d, want %d", cols, p, zones, got, err, want)
	}
	if prune.Skip(cols, p, zones) {
		t.Errorf("Skip(%+v, %+v, %+v) is true, of error %d", cols, p, zones, want)
	}
}

func TestExample(t *testing.T) { // P21.1
	cols := []api.Col{{Name: "a", Type: api.TyInt}}
	ask(t, cols, num("a", api.CmpGt, 5), []api.Zone{spanned(3, 0, n(1), n(5))}, truths("n"))
}

func TestCompared(t *testing.T) { // P21.1: by the values from Low to High
	for _, ty := range []int{api.TyInt, api.TyBool, api.TyText} {
		values := rising(ty)
		for low := range values {
			for high := low; high < len(values); high++ {
				for at, val := range values {
					for comparison := api.CmpEq; comparison <= api.CmpGe; comparison++ {
						var want prune.Truths
						for v := low; v <= high; v++ {
							want.Yes = want.Yes || agrees(comparison, v-at)
							want.No = want.No || !agrees(comparison, v-at)
						}
						p := compare("a", comparison, ty, val)
						askOne(t, ty, p, spanned(7, 0, values[low], values[high]), want)
						want.Maybe = true
						askOne(t, ty, p, spanned(7, 1, values[low], values[high]), want)
						askOne(t, ty, p, spanned(7, 6, values[low], values[high]), want)
					}
				}
			}
		}
	}
}

func TestComparedBetween(t *testing.T) { // P21.1: Low and High alone are asked, not what may be between them
	for _, c := range []struct {
		comparison int
		val        int64
		low, high  int64
		want       string
	}{
		{api.CmpEq, 5, 1, 9, "yn"}, {api.CmpEq, 5, 5, 9, "yn"}, {api.CmpEq, 5, 1, 5, "yn"}, {api.CmpEq, 5, 5, 5, "y"}, {api.CmpEq, 5, 6, 9, "n"}, {api.CmpEq, 5, 1, 4, "n"},
		{api.CmpNe, 5, 1, 9, "yn"}, {api.CmpNe, 5, 5, 9, "yn"}, {api.CmpNe, 5, 1, 5, "yn"}, {api.CmpNe, 5, 5, 5, "n"}, {api.CmpNe, 5, 6, 9, "y"}, {api.CmpNe, 5, 1, 4, "y"},
		{api.CmpLt, 5, 1, 9, "yn"}, {api.CmpLt, 5, 5, 9, "n"}, {api.CmpLt, 5, 1, 5, "yn"}, {api.CmpLt, 5, 5, 5, "n"}, {api.CmpLt, 5, 6, 9, "n"}, {api.CmpLt, 5, 1, 4, "y"}, {api.CmpLt, 5, 4, 6, "yn"},
		{api.CmpLe, 5, 1, 9, "yn"}, {api.CmpLe, 5, 5, 9, "yn"}, {api.CmpLe, 5, 1, 5, "y"}, {api.CmpLe, 5, 5, 5, "y"}, {api.CmpLe, 5, 6, 9, "n"}, {api.CmpLe, 5, 1, 4, "y"}, {api.CmpLe, 5, 5, 6, "yn"},
		{api.CmpGt, 5, 1, 9, "yn"}, {api.CmpGt, 5, 5, 9, "yn"}, {api.CmpGt, 5, 1, 5, "n"}, {api.CmpGt, 5, 5, 5, "n"}, {api.CmpGt, 5, 6, 9, "y"}, {api.CmpGt, 5, 1, 4, "n"}, {api.CmpGt, 5, 4, 6, "yn"},
		{api.CmpGe, 5, 1, 9, "yn"}, {api.CmpGe, 5, 5, 9, "y"}, {api.CmpGe, 5, 1, 5, "yn"}, {api.CmpGe, 5, 5, 5, "y"}, {api.CmpGe, 5, 6, 9, "y"}, {api.CmpGe, 5, 1, 4, "n"}, {api.CmpGe, 5, 4, 5, "yn"},
	} {
		askOne(t, api.TyInt, num("a", c.comparison, c.val), spanned(2, 0, n(c.low), n(c.high)), truths(c.want))
		askOne(t, api.TyInt, num("a", c.comparison, c.val), spanned(3, 1, n(c.low), n(c.high)), truths(c.want+"m"))
	}
	askOne(t, api.TyText, compare("a", api.CmpEq, api.TyText, s("ab")), spanned(2, 0, s("a"), s("b")), truths("yn"))
	askOne(t, api.TyInt, num("a", api.CmpEq, 5), spanned(1, 0, n(1), n(9)), truths("yn")) // one cell, between two bounds
}

// noBounds is zones of cells of which none is not null, and the truths that there may be of what is null.
func noBounds() map[api.Zone]string {
	return map[api.Zone]string{{}: "", {Rows: 1, Nulls: 1}: "m", {Rows: 9, Nulls: 9}: "m", {Rows: api.MaxList, Nulls: api.MaxList}: "m"}
}

func TestComparedWithoutBounds(t *testing.T) { // P21.1: zero cells are no bounds, if all are null
	for z, want := range noBounds() {
		for _, ty := range []int{api.TyInt, api.TyBool, api.TyText} {
			for _, val := range rising(ty) {
				for comparison := api.CmpEq; comparison <= api.CmpGe; comparison++ {
					askOne(t, ty, compare("a", comparison, ty, val), z, truths(want))
				}
			}
		}
	}
}

func TestNull(t *testing.T) { // P21.1
	for _, ty := range []int{api.TyInt, api.TyBool, api.TyText} {
		for _, c := range rising(ty) {
			for _, rows := range []int{2, 3, 7, api.MaxList} {
				askOne(t, ty, isNull("a"), spanned(rows, 0, c, c), truths("n"))
				askOne(t, ty, isNull("a"), spanned(rows, 1, c, c), truths("yn"))
				askOne(t, ty, isNull("a"), spanned(rows, rows-1, c, c), truths("yn"))
			}
		}
		askOne(t, ty, isNull("a"), api.Zone{}, truths(""))
		askOne(t, ty, isNull("a"), api.Zone{Rows: 1, Nulls: 1}, truths("y"))
		askOne(t, ty, isNull("a"), api.Zone{Rows: api.MaxList, Nulls: api.MaxList}, truths("y"))
	}
}

func TestLike(t *testing.T) { // P21.1: the pattern is not asked
	for _, pattern := range []string{"", "%", "_", "x", "zz%", "%%", x(40)} {
		for _, c := range rising(api.TyText) {
			askOne(t, api.TyText, like("a", pattern), spanned(1, 0, c, c), truths("yn"))
			askOne(t, api.TyText, like("a", pattern), spanned(2, 1, c, c), truths("ynm"))
			askOne(t, api.TyText, like("a", pattern), spanned(9, 8, s(""), c), truths("ynm"))
		}
		for z, want := range noBounds() {
			askOne(t, api.TyText, like("a", pattern), z, truths(want))
		}
	}
}

func TestAll(t *testing.T) { // P21.1: of no rows too
	for _, z := range []api.Zone{{}, {Rows: 1, Nulls: 1}, spanned(1, 0, n(3), n(3)), spanned(3, 1, n(1), n(5))} {
		askOne(t, api.TyInt, every(), z, truths("y"))
		askOne(t, api.TyInt, not(every()), z, truths("n"))
	}
}

// whole is columns, and zones of them, in which leaves has predicates of which there may be these truths.
func whole() ([]api.Col, []api.Zone) {
	return []api.Col{
		{Name: "empty", Type: api.TyInt}, {Name: "nothing", Type: api.TyText, Null: true}, {Name: "plain", Type: api.TyInt},
		{Name: "mixed", Type: api.TyText, Null: true}, {Name: "truth", Type: api.TyBool, Null: true}, {Name: "number", Type: api.TyInt, Null: true},
	}, []api.Zone{
		{}, {Rows: 5, Nulls: 5}, spanned(5, 0, n(1), n(5)),
		spanned(5, 1, s("b"), s("d")), spanned(5, 2, n(1), n(1)), spanned(5, 4, n(-3), n(-3)),
	}
}

// leaves is predicates of the columns of whole, by the truths that there may be.
func leaves() map[prune.Truths][]api.Pred {
	return map[prune.Truths][]api.Pred{
		truths(""):    {num("empty", api.CmpEq, 0), isNull("empty")},
		truths("y"):   {num("plain", api.CmpLe, 5), isNull("nothing"), every()},
		truths("n"):   {num("plain", api.CmpGt, 5), isNull("plain")},
		truths("m"):   {compare("nothing", api.CmpNe, api.TyText, s("x")), like("nothing", "%")},
		truths("yn"):  {num("plain", api.CmpEq, 3), isNull("mixed")},
		truths("ym"):  {compare("truth", api.CmpEq, api.TyBool, n(1)), num("number", api.CmpLt, 0)},
		truths("nm"):  {compare("truth", api.CmpLt, api.TyBool, n(1)), num("number", api.CmpNe, -3)},
		truths("ynm"): {like("mixed", "zz"), compare("mixed", api.CmpGe, api.TyText, s("c"))},
	}
}

// mirrored is a with Yes and No changed.
func mirrored(a prune.Truths) prune.Truths { return prune.Truths{Yes: a.No, No: a.Yes, Maybe: a.Maybe} }

// andOf and orOf are the truths of an and, and of an or, of Kids of these.
func andOf(l ...prune.Truths) prune.Truths {
	return prune.Truths{Yes: !slices.ContainsFunc(l, func(a prune.Truths) bool { return !a.Yes }), No: slices.ContainsFunc(l, hasNo), Maybe: slices.ContainsFunc(l, hasMaybe)}
}
func orOf(l ...prune.Truths) prune.Truths {
	return prune.Truths{Yes: slices.ContainsFunc(l, hasYes), No: !slices.ContainsFunc(l, func(a prune.Truths) bool { return !a.No }), Maybe: slices.ContainsFunc(l, hasMaybe)}
}
func hasYes(a prune.Truths) bool   { return a.Yes }
func hasNo(a prune.Truths) bool    { return a.No }
func hasMaybe(a prune.Truths) bool { return a.Maybe }

func TestNot(t *testing.T) { // P21.1
	cols, zones := whole()
	for is, l := range leaves() {
		for _, p := range l {
			ask(t, cols, p, zones, is)
			ask(t, cols, not(p), zones, mirrored(is))
			ask(t, cols, not(not(p)), zones, is)
			ask(t, cols, not(not(not(p))), zones, mirrored(is))
		}
	}
}

func TestAndOrKnown(t *testing.T) { // P21.1: the Maybe of one stays, even where another decides
	cols, zones := whole()
	l := leaves()
	yes, no, maybe, none, mixed := l[truths("y")][0], l[truths("n")][0], l[truths("m")][0], l[truths("")][0], l[truths("ynm")][0]
	for _, c := range []struct {
		p    api.Pred
		want string
	}{
		{and(yes, yes), "y"}, {and(yes, no), "n"}, {and(no, no), "n"}, {and(no, maybe), "nm"}, {and(maybe, yes), "m"}, {and(maybe, maybe), "m"}, {and(none, yes), ""}, {and(yes, none), ""}, {and(none, no), "n"}, {and(none, maybe), "m"}, {and(mixed, yes), "ynm"}, {and(mixed, no), "nm"}, {and(mixed, maybe), "nm"},
		{or(yes, yes), "y"}, {or(yes, no), "y"}, {or(no, no), "n"}, {or(yes, maybe), "ym"}, {or(maybe, no), "m"}, {or(maybe, maybe), "m"}, {or(none, no), ""}, {or(no, none), ""}, {or(none, yes), "y"}, {or(none, maybe), "m"}, {or(mixed, no), "ynm"}, {or(mixed, yes), "ym"}, {or(mixed, maybe), "ym"},
	} {
		ask(t, cols, c.p, zones, truths(c.want))
	}
}

func TestAndOr(t *testing.T) { // P21.1: of each two and each three
	cols, zones := whole()
	l := leaves()
	for a, first := range l {
		for b, second := range l {
			for _, p := range first {
				for _, q := range second {
					ask(t, cols, and(p, q), zones, andOf(a, b))
					ask(t, cols, or(p, q), zones, orOf(a, b))
					ask(t, cols, not(and(p, not(q))), zones, mirrored(andOf(a, mirrored(b))))
				}
			}
			for c, third := range l {
				ask(t, cols, and(first[0], second[1], third[0]), zones, andOf(a, b, c))
				ask(t, cols, or(first[1], second[0], third[1]), zones, orOf(a, b, c))
				ask(t, cols, and(first[1], or(second[1], third[0])), zones, andOf(a, orOf(b, c)))
				ask(t, cols, or(and(first[0], second[0]), third[1]), zones, orOf(andOf(a, b), c))
			}
		}
	}
}

func TestManyKids(t *testing.T) { // P21.1: each place among as many as may be is asked
	cols, zones := whole()
	for a, first := range leaves() {
		for b, second := range leaves() {
			for at := range api.MaxNodes - 1 {
				kids, each := slices.Repeat(first[:1], api.MaxNodes-1), slices.Repeat([]prune.Truths{a}, api.MaxNodes-1)
				kids[at], each[at] = second[1], b
				ask(t, cols, and(kids...), zones, andOf(each...))
				ask(t, cols, or(kids...), zones, orOf(each...))
			}
		}
	}
}

// wrongPreds are predicates that may not be, and ones that do not fit the columns of whole, with their errors.
func wrongPreds() map[api.Errno][]api.Pred {
	a := isNull("plain")
	return map[api.Errno][]api.Pred{
		api.ErrArg: {{}, {Op: 8}, {Op: -1}, {Op: 1, Col: "plain"}, and(a), or(), not(api.Pred{}), and(a, and(a, a)), num("A", 1, 1), num("plain", 0, 1), num("plain", 7, 1), compare("truth", 1, api.TyBool, n(2)),
			compare("mixed", 1, api.TyText, s(x(41))), like("mixed", x(41)), compare("number", 1, api.TyInt, null), not(not(not(not(not(not(a)))))), and(slices.Repeat([]api.Pred{a}, 16)...), or(every(), api.Pred{}), and(num("z", 1, 1), api.Pred{})},
		api.ErrType: {num("z", 1, 1), isNull("z"), like("z", "x"), num("truth", 1, 1), num("mixed", 1, 1), compare("plain", 1, api.TyBool, n(1)), compare("plain", 1, api.TyText, s("x")), like("plain", "x"), like("truth", "x"), not(isNull("z")), or(every(), num("mixed", 1, 1))},
	}
}

// wrongCols are columns that may not be.
func wrongCols() [][]api.Col {
	a := api.Col{Name: "plain", Type: api.TyInt}
	cols, _ := whole()
	return [][]api.Col{nil, {}, {a, a}, {{Name: "plain"}}, {{Name: "A", Type: 1}}, {{Name: "plain", Type: 4}}, {a, {Name: "null", Type: 1}}, append(cols, api.Col{Name: "g", Type: api.TyInt})}
}

// wrongZones are lists of zones that may not be those of the columns of whole: too few, too many, or with one that may not be at some place.
func wrongZones() [][]api.Zone {
	_, zones := whole()
	l := [][]api.Zone{nil, {}, zones[:5], zones[1:], append(slices.Clone(zones), api.Zone{}), append(slices.Clone(zones), zones...)}
	for at := range zones {
		for _, z := range []api.Zone{
			{Rows: -1, Nulls: -1}, {Rows: 1, Nulls: 2}, {Rows: 1, Nulls: -1}, {Rows: api.MaxList + 1, Nulls: api.MaxList + 1}, {Rows: 1, Nulls: 1, Low: n(1)}, {Rows: 1, Nulls: 1, High: s("x")}, {Low: null, High: null},
			spanned(1, 0, null, null), spanned(2, 0, n(1), n(0)), spanned(2, 0, s("b"), s("a")), spanned(2, 0, api.Cell{I: 1, S: "x"}, api.Cell{I: 1, S: "x"}), spanned(2, 0, s(x(41)), s(x(41))), spanned(math.MaxInt, math.MinInt, n(1), n(1)), spanned(math.MinInt, math.MaxInt, n(0), n(0)),
		} {
			wrong := slices.Clone(zones)
			wrong[at] = z
			l = append(l, wrong)
		}
	}
	for at, z := range []api.Zone{spanned(1, 0, s("x"), s("x")), spanned(1, 0, n(7), n(7)), spanned(1, 0, s(""), s("x")), spanned(1, 0, n(0), n(1)), spanned(1, 0, n(0), n(2)), spanned(1, 0, s("x"), s("y"))} {
		wrong := slices.Clone(zones)
		wrong[at] = z
		l = append(l, wrong)
	}
	return l
}

func TestErrorsOfPredicates(t *testing.T) { // P21.1, P21.2: ahead of those of zones
	cols, zones := whole()
	for err, l := range wrongPreds() {
		for _, p := range l {
			fails(t, cols, p, zones, err)
			for _, wrong := range wrongZones() {
				fails(t, cols, p, wrong, err)
			}
		}
	}
}

func TestErrorsOfColumns(t *testing.T) { // P21.1, P21.2
	_, zones := whole()
	for _, cols := range wrongCols() {
		for _, p := range []api.Pred{every(), not(every()), num("plain", 1, 5), isNull("z"), {}} {
			fails(t, cols, p, make([]api.Zone, len(cols)), api.ErrArg)
			fails(t, cols, p, zones, api.ErrArg)
			fails(t, cols, p, nil, api.ErrArg)
		}
	}
}

func TestErrorsOfZones(t *testing.T) { // P21.1, P21.2: of columns that the predicate asks, and of others
	cols, _ := whole()
	for _, zones := range wrongZones() {
		for _, l := range leaves() {
			for _, p := range l {
				fails(t, cols, p, zones, api.ErrArg)
				fails(t, cols, not(p), zones, api.ErrArg)
				fails(t, cols, and(not(every()), p), zones, api.ErrArg)
			}
		}
	}
}

func TestZonesThatAreTaken(t *testing.T) { // P21.1: as zone.May has it, whether null may be or not, and as many rows as others or not
	cols := []api.Col{{Name: "a", Type: api.TyInt}, {Name: "b", Type: api.TyText}}
	zones := []api.Zone{spanned(3, 2, n(1), n(2)), {Rows: api.MaxList, Nulls: api.MaxList}}
	ask(t, cols, isNull("a"), zones, truths("yn"))
	ask(t, cols, isNull("b"), zones, truths("y"))
	ask(t, cols, num("a", api.CmpLt, 1), zones, truths("nm"))
	ask(t, cols, and(num("a", api.CmpLt, 3), like("b", "x")), zones, truths("m"))
}

func TestWhichColumn(t *testing.T) { // P21.1: each is asked of its own zone
	cols, zones := make([]api.Col, api.MaxCols), make([]api.Zone, api.MaxCols)
	for at := range cols {
		for i := range cols {
			cols[i] = api.Col{Name: string(rune('a' + i)), Type: api.TyInt}
			zones[i] = spanned(3, 0, n(6), n(9))
		}
		zones[at] = spanned(3, 2, n(1), n(4))
		for i, col := range cols {
			want := truths("n")
			if i == at {
				want = truths("ym")
			}
			ask(t, cols, num(col.Name, api.CmpLe, 5), zones, want)
		}
	}
}

func TestSkip(t *testing.T) { // P21.2
	cols, zones := whole()
	for is, l := range leaves() {
		for _, p := range l {
			if prune.Skip(cols, p, zones) == is.Yes || prune.Skip(cols, not(p), zones) == is.No {
				t.Errorf("Skip of %q or of not of it is wrong, of %+v", pred.Text(p), is)
			}
		}
	}
	if prune.Skip(cols, every(), zones) || !prune.Skip(cols, not(every()), zones) || prune.Skip(cols, not(every()), zones[1:]) || prune.Skip(cols[1:], num("empty", 1, 1), zones[1:]) {
		t.Error("what is all, none, or has an error, is skipped otherwise")
	}
}

// source draws numbers by a rule.
type source uint32

// below is the next number, below n.
func (d *source) below(n int) int {
	*d = *d*1664525 + 1013904223
	return int(*d>>8) % n
}

// cell draws a cell of that type, not null, from a few.
func (d *source) cell(ty int) api.Cell {
	l := rising(ty)
	return l[d.below(len(l))]
}

// cols draws some columns of any types, of which each may be null or not.
func (d *source) cols() []api.Col {
	l := make([]api.Col, 1+d.below(6))
	for i := range l {
		l[i] = api.Col{Name: string(rune('a' + i)), Type: 1 + d.below(3), Null: d.below(2) == 0}
	}
	return l
}

// rows draws rows of cols, whose cells are of few values, column by column.
func (d *source) rows(cols []api.Col) [][]api.Cell {
	rows := make([][]api.Cell, d.below(9))
	for i := range rows {
		rows[i] = make([]api.Cell, len(cols))
	}
	for at, col := range cols {
		few := []api.Cell{d.cell(col.Type), d.cell(col.Type), d.cell(col.Type)}[:1+d.below(3)]
		nulls := d.below(4)
		for i := range rows {
			rows[i][at] = few[d.below(len(few))]
			if col.Null && d.below(3) < nulls {
				rows[i][at] = null
			}
		}
	}
	return rows
}

// leaf draws a predicate without Kids that fits cols.
func (d *source) leaf(cols []api.Col) api.Pred {
	col := cols[d.below(len(cols))]
	switch d.below(9) {
	case 0:
		return every()
	case 1, 2:
		return isNull(col.Name)
	case 3, 4:
		if col.Type == api.TyText {
			return like(col.Name, []string{"", "%", "_", "a%", "%B", "a_", "Ä"}[d.below(7)])
		}
	}
	return compare(col.Name, 1+d.below(6), col.Type, d.cell(col.Type))
}

// pred draws a predicate that fits cols, unless it has too many within it.
func (d *source) pred(cols []api.Col, levels int) api.Pred {
	op := 5 + d.below(3)
	if levels == 1 || d.below(4) == 0 {
		return d.leaf(cols)
	}
	if op == api.PrNot {
		return not(d.pred(cols, levels-1))
	}
	p := api.Pred{Op: op}
	for len(p.Kids) < 2 || d.below(4) == 0 {
		if kid := d.pred(cols, levels-1); kid.Op != op {
			p.Kids = append(p.Kids, kid)
		}
	}
	return p
}

// drawn is handed many predicates, which may be, with their columns, rows, and the zones of the rows' columns.
func drawn(t *testing.T, seed source, handed func(cols []api.Col, p api.Pred, rows [][]api.Cell, zones []api.Zone)) {
	t.Helper()
	asked := 0
	for range 12000 {
		cols := seed.cols()
		p := seed.pred(cols, 1+seed.below(6))
		if !pred.May(p) {
			continue
		}
		asked++
		rows := seed.rows(cols)
		zones := make([]api.Zone, len(cols))
		for at := range cols {
			var column []api.Cell
			for _, row := range rows {
				column = append(column, row[at])
			}
			zones[at] = zone.Of(column)
		}
		handed(cols, p, rows, zones)
	}
	if asked < 8000 {
		t.Errorf("just %d of those drawn may be", asked)
	}
}

// byRule is which truths p, which fits cols, may be, as the chapter says it.
func byRule(cols []api.Col, p api.Pred, zones []api.Zone) prune.Truths {
	if p.Op == 1 {
		return truths("y")
	}
	var each []prune.Truths
	for _, kid := range p.Kids {
		each = append(each, byRule(cols, kid, zones))
	}
	switch p.Op {
	case 5:
		return mirrored(each[0])
	case 6:
		return andOf(each...)
	case 7:
		return orOf(each...)
	}
	z := zones[slices.IndexFunc(cols, func(col api.Col) bool { return col.Name == p.Col })]
	nulls, others := z.Nulls > 0, z.Rows > z.Nulls
	switch {
	case p.Op == 3:
		return prune.Truths{Yes: nulls, No: others}
	case p.Op == 4 || !others:
		return prune.Truths{Yes: others, No: others, Maybe: nulls}
	}
	low, high := cell.Order(z.Low, p.Val), cell.Order(z.High, p.Val)
	is := prune.Truths{Maybe: nulls}
	for _, order := range []int{low, high, max(low, min(high, 0))} { // Low, High, and Val, if it is between them
		is.Yes = is.Yes || agrees(p.Cmp, order)
		is.No = is.No || !agrees(p.Cmp, order)
	}
	return is
}

func TestOfDrawn(t *testing.T) { // P21.1, P21.2
	seen := map[prune.Truths]int{}
	drawn(t, 21, func(cols []api.Col, p api.Pred, _ [][]api.Cell, zones []api.Zone) {
		want := byRule(cols, p, zones)
		seen[want]++
		ask(t, cols, p, zones, want)
	})
	for _, letters := range []string{"", "y", "n", "m", "yn", "ym", "nm", "ynm"} {
		if seen[truths(letters)] < 100 {
			t.Errorf("the truths of those drawn are %v", seen)
		}
	}
}

func TestNothingIsLost(t *testing.T) { // P21.3
	var seen [3]int
	skipped, rowsSkipped := 0, 0
	drawn(t, 3, func(cols []api.Col, p api.Pred, rows [][]api.Cell, zones []api.Zone) {
		may, err := prune.Ask(cols, p, zones)
		if err != api.OK {
			t.Fatalf("Ask(%+v, %q, %+v) has error %d", cols, pred.Text(p), zones, err)
		}
		for _, row := range rows {
			is, err := eval.Row(cols, p, row)
			if err != api.OK || !(is == eval.Yes && may.Yes || is == eval.No && may.No || is == eval.Maybe && may.Maybe) {
				t.Fatalf("%q is %d, with error %d, of %+v among rows of %+v, of which it may be %+v", pred.Text(p), is, err, row, zones, may)
			}
			seen[is]++
		}
		if prune.Skip(cols, p, zones) {
			skipped++
			rowsSkipped += len(rows)
			if places, err := eval.Rows(cols, p, rows); len(places) > 0 || err != api.OK {
				t.Fatalf("%q is Yes of rows %v of %+v, with error %d, which are skipped", pred.Text(p), places, rows, err)
			}
		}
	})
	if slices.Min(seen[:]) < 2000 || skipped < 1000 || rowsSkipped < 1000 {
		t.Errorf("the truths of the rows drawn are %v; skipped were %d times %d rows", seen, skipped, rowsSkipped)
	}
}

func TestNothingIsLostOfFew(t *testing.T) { // P21.3: of all columns of up to three cells, of few values
	for _, ty := range []int{api.TyInt, api.TyBool, api.TyText} {
		cols := []api.Col{{Name: "a", Type: ty, Null: true}}
		values := append(rising(ty)[:2:2], null)
		lists := [][]api.Cell{nil}
		for from := 0; len(lists[from]) < 3; from++ {
			for _, c := range values {
				lists = append(lists, append(slices.Clone(lists[from]), c))
			}
		}
		for _, l := range lists {
			zones := []api.Zone{zone.Of(l)}
			for _, val := range rising(ty) {
				for comparison := api.CmpEq; comparison <= api.CmpGe; comparison++ {
					p := compare("a", comparison, ty, val)
					may, _ := prune.Ask(cols, p, zones)
					for _, c := range l {
						if is, _ := eval.Row(cols, p, []api.Cell{c}); ![]bool{may.No, may.Yes, may.Maybe}[is] {
							t.Fatalf("%q is %d of %+v, one of %+v, of which it may be %+v", pred.Text(p), is, c, l, may)
						}
					}
				}
			}
		}
	}
}

func TestOfGreatOnes(t *testing.T) { // P21.1, rule 1
	cols, zones := whole()
	a := isNull("plain")
	far := a
	for range 1 << 15 {
		far = not(far)
	}
	itself := make([]api.Pred, 2)
	for i := range itself {
		itself[i] = api.Pred{Op: 6 + i, Kids: itself}
	}
	for _, p := range []api.Pred{and(slices.Repeat([]api.Pred{a}, 1<<17)...), far, itself[0], not(itself[1])} {
		fails(t, cols, p, zones, api.ErrArg)
	}
	fails(t, cols, a, slices.Repeat(zones, 1<<15), api.ErrArg)
	fails(t, slices.Repeat(cols, 1<<10), a, slices.Repeat(zones, 1<<10), api.ErrArg)
}

// copyOf is p, sharing nothing.
func copyOf(p api.Pred) api.Pred {
	kids := p.Kids
	p.Kids = nil
	for _, kid := range kids {
		p.Kids = append(p.Kids, copyOf(kid))
	}
	return p
}

func TestNothingChanged(t *testing.T) { // rules 3 and 4
	drawn(t, 9, func(cols []api.Col, p api.Pred, _ [][]api.Cell, zones []api.Zone) {
		oldCols, oldPred, oldZones := slices.Clone(cols), copyOf(p), slices.Clone(zones)
		first, _ := prune.Ask(cols, p, zones)
		prune.Skip(cols, p, zones)
		if again, err := prune.Ask(cols, p, zones); again != first || err != api.OK {
			t.Fatalf("Ask(%q) is %+v, and then %+v with error %d", pred.Text(p), first, again, err)
		}
		if !slices.Equal(cols, oldCols) || !reflect.DeepEqual(p, oldPred) || !slices.Equal(zones, oldZones) {
			t.Fatalf("what was handed in, %+v, %+v, %+v, was changed", oldCols, oldPred, oldZones)
		}
	})
}
