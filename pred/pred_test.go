package pred_test

import (
	"math"
	"reflect"
	"slices"
	"strconv"
	"strings"
	"testing"

	"firkin/api"
	"firkin/pred"
	"firkin/schema"
	"firkin/word"
)

var null = api.Cell{Null: true}

// The cells of a number or a truth, and of a text.
func n(i int64) api.Cell  { return api.Cell{I: i} }
func s(t string) api.Cell { return api.Cell{S: t} }

// x is a text of so many bytes.
func x(size int) string { return strings.Repeat("x", size) }

// The predicates of each kind.
func every() api.Pred { return api.Pred{Op: api.PrAll} }
func num(col string, cmp int, i int64) api.Pred {
	return api.Pred{Op: api.PrCmp, Col: col, Cmp: cmp, Kind: api.TyInt, Val: n(i)}
}
func truth(col string, cmp int, i int64) api.Pred {
	return api.Pred{Op: api.PrCmp, Col: col, Cmp: cmp, Kind: api.TyBool, Val: n(i)}
}
func textual(col string, cmp int, t string) api.Pred {
	return api.Pred{Op: api.PrCmp, Col: col, Cmp: cmp, Kind: api.TyText, Val: s(t)}
}
func isNull(col string) api.Pred        { return api.Pred{Op: api.PrNull, Col: col} }
func like(col, pattern string) api.Pred { return api.Pred{Op: api.PrLike, Col: col, Pat: pattern} }
func not(kid api.Pred) api.Pred         { return api.Pred{Op: api.PrNot, Kids: []api.Pred{kid}} }
func and(kids ...api.Pred) api.Pred     { return api.Pred{Op: api.PrAnd, Kids: kids} }
func or(kids ...api.Pred) api.Pred      { return api.Pred{Op: api.PrOr, Kids: kids} }

// nots is p within so many nots.
func nots(many int, p api.Pred) api.Pred {
	for range many {
		p = not(p)
	}
	return p
}

// times is p so many times.
func times(many int, p api.Pred) []api.Pred {
	return slices.Repeat([]api.Pred{p}, many)
}

// deep is a predicate of Kids within Kids, so deep.
func deep(levels int) api.Pred {
	p := isNull("a")
	for i := 1; i < levels; i++ {
		if i%2 == 1 {
			p = and(p, every())
		} else {
			p = or(isNull("b"), p)
		}
	}
	return p
}

// columns are those that the tests' predicates are asked of: a number, a truth, a text, and each once more, null.
func columns() []api.Col {
	return []api.Col{
		{Name: "a", Type: api.TyInt}, {Name: "b", Type: api.TyBool}, {Name: "c", Type: api.TyText},
		{Name: "d", Type: api.TyInt, Null: true}, {Name: "e", Type: api.TyBool, Null: true}, {Name: "f", Type: api.TyText, Null: true},
	}
}

// leaves is some predicates of each kind that have no Kids, that may be and fit columns.
func leaves() []api.Pred {
	l := []api.Pred{every()}
	for cmp := api.CmpEq; cmp <= api.CmpGe; cmp++ {
		l = append(l, num("a", cmp, -5), truth("b", cmp, 1), textual("c", cmp, "it's"), num("d", cmp, math.MinInt64), truth("e", cmp, 0), textual("f", cmp, ""))
	}
	for _, col := range columns() {
		l = append(l, isNull(col.Name))
	}
	return append(l, like("c", ""), like("c", "x%"), like("f", "'_'"), like("f", x(40)))
}

// whole is some predicates that may be and fit columns, of all kinds.
func whole() []api.Pred {
	l := leaves()
	for _, p := range leaves() {
		l = append(l, not(p), nots(5, p), and(p, p), or(p, p), and(every(), or(p, every()), not(p)), or(and(p, isNull("a")), not(or(p, p))), not(and(p, p)))
	}
	return append(l, and(times(15, isNull("a"))...), or(times(15, num("a", 1, 1))...), deep(6), deep(5),
		or(and(times(6, every())...), and(times(7, every())...)))
}

// allWithin is all predicates within p, itself ahead.
func allWithin(p api.Pred) []api.Pred {
	l := []api.Pred{p}
	for _, kid := range p.Kids {
		l = append(l, allWithin(kid)...)
	}
	return l
}

// depth is how deep p is.
func depth(p api.Pred) int {
	most := 0
	for _, kid := range p.Kids {
		most = max(most, depth(kid))
	}
	return most + 1
}

// mayByRule is what the chapter says of p, each field by itself.
func mayByRule(p api.Pred) bool {
	within := allWithin(p)
	return len(within) <= 16 && depth(p) <= 6 && !slices.ContainsFunc(within, wrongByRule)
}

// wrongByRule is whether p is none, whatever its Kids are.
func wrongByRule(p api.Pred) bool {
	col, cmp, pat, kids := false, false, false, p.Op >= 5 && p.Op <= 7
	switch p.Op {
	case 1, 5, 6, 7:
	case 2:
		col, cmp = true, true
	case 3:
		col = true
	case 4:
		col, pat = true, true
	default:
		return true
	}
	switch {
	case schema.Name(p.Col) != col, !col && p.Col != "":
		return true
	case !cmp && (p.Cmp != 0 || p.Kind != 0 || p.Val != api.Cell{}):
		return true
	case !pat && p.Pat != "" || len(p.Pat) > 40:
		return true
	case !kids && len(p.Kids) > 0 || p.Op == 5 && len(p.Kids) != 1 || p.Op > 5 && len(p.Kids) < 2:
		return true
	}
	for _, kid := range p.Kids {
		if p.Op > 5 && kid.Op == p.Op {
			return true
		}
	}
	return cmp && !compares(p)
}

// compares is whether Cmp, Kind and Val are right in p.
func compares(p api.Pred) bool {
	if p.Cmp < 1 || p.Cmp > 6 || p.Val.Null {
		return false
	}
	switch p.Kind {
	case 1:
		return p.Val == n(p.Val.I)
	case 2:
		return p.Val == n(0) || p.Val == n(1)
	case 3:
		return p.Val == s(p.Val.S) && len(p.Val.S) <= 40
	}
	return false
}

// fitsByRule is what the chapter says of p and cols.
func fitsByRule(cols []api.Col, p api.Pred) api.Errno {
	if !mayByRule(p) || schema.Check(cols) != 0 {
		return 1
	}
	types := map[string]int{}
	for _, c := range cols {
		types[c.Name] = c.Type
	}
	for _, q := range allWithin(p) {
		want := map[int]int{2: q.Kind, 3: types[q.Col], 4: 3}[q.Op]
		if q.Op >= 2 && q.Op <= 4 && (types[q.Col] == 0 || types[q.Col] != want) {
			return 10
		}
	}
	return 0
}

// colsByRule is the names in p, each once.
func colsByRule(p api.Pred) []string {
	var names []string
	seen := map[string]bool{"": true}
	for _, q := range allWithin(p) {
		if !seen[q.Col] {
			names = append(names, q.Col)
		}
		seen[q.Col] = true
	}
	return names
}

// reader reads the tokens of a predicate's text, as layer 19 says it, and notes where blanks stand.
type reader struct {
	tokens []word.Token
	at     int
}

func (r *reader) next() word.Token { r.at++; return r.tokens[r.at-1] }
func (r *reader) is(s string) bool {
	k := r.tokens[r.at]
	return (k.Kind == word.Name || k.Kind == word.Mark) && k.S == s
}

// chain is those of one kind of p with that word between, or one of them alone.
func (r *reader) chain(op int, between string, one func() api.Pred) api.Pred {
	kids := []api.Pred{one()}
	for r.is(between) {
		r.next()
		kids = append(kids, one())
	}
	if len(kids) == 1 {
		return kids[0]
	}
	return api.Pred{Op: op, Kids: kids}
}

func (r *reader) either() api.Pred { return r.chain(api.PrOr, "or", r.both) }
func (r *reader) both() api.Pred   { return r.chain(api.PrAnd, "and", r.single) }
func (r *reader) single() api.Pred {
	k := r.next()
	switch {
	case k.S == "not":
		return not(r.single())
	case k.S == "(":
		p := r.either()
		r.next()
		return p
	case k.S == "all":
		return every()
	case r.is("is"):
		r.at += 2
		return isNull(k.S)
	case r.is("like"):
		r.next()
		return like(k.S, r.next().S)
	}
	p := api.Pred{Op: api.PrCmp, Col: k.S}
	p.Cmp = 1 + slices.Index([]string{"=", "<>", "<", "<=", ">", ">="}, r.next().S)
	v := r.next()
	switch v.Kind {
	case word.Number:
		p.Kind, p.Val = api.TyInt, n(v.N)
	case word.Text:
		p.Kind, p.Val = api.TyText, s(v.S)
	default:
		p.Kind, p.Val = api.TyBool, n(int64(strings.Index("false true", v.S)/6))
	}
	return p
}

// spaced is whether in text one blank, and nothing more, parts its tokens, but none stands behind ( and ahead of ).
func spaced(text string, tokens []word.Token) bool {
	var b strings.Builder
	for i, k := range tokens[:len(tokens)-1] {
		behind := i > 0 && tokens[i-1].S == "(" && tokens[i-1].Kind == word.Mark
		if i > 0 && !behind && !(k.Kind == word.Mark && k.S == ")") {
			b.WriteString(" ")
		}
		switch k.Kind {
		case word.Text:
			b.WriteString("'" + strings.ReplaceAll(k.S, "'", "''") + "'")
		case word.Number:
			b.WriteString(strconv.FormatInt(k.N, 10))
		default:
			b.WriteString(k.S)
		}
	}
	return b.String() == text
}

// wantRight is whether all calls are right of p, as the chapter says it.
func wantRight(t *testing.T, p api.Pred) bool {
	t.Helper()
	may := mayByRule(p)
	if got := pred.May(p); got != may {
		t.Fatalf("May(%+v) = %v", p, got)
	}
	if got, want := pred.Fits(columns(), p), fitsByRule(columns(), p); got != want {
		t.Fatalf("Fits(columns, %+v) = %d, want %d", p, got, want)
	}
	text, names := pred.Text(p), pred.Cols(p)
	if !may {
		if text != "" || len(names) != 0 {
			t.Fatalf("of %+v, that may not be, there are %q and %q", p, text, names)
		}
		return false
	}
	if !slices.Equal(names, colsByRule(p)) {
		t.Fatalf("Cols(%+v) = %q, want %q", p, names, colsByRule(p))
	}
	wantReadable(t, p, text)
	return true
}

// wantReadable is whether text has the tokens of p, with as many brackets as it needs.
func wantReadable(t *testing.T, p api.Pred, text string) {
	t.Helper()
	tokens, brackets := tokensOf(t, text), 0
	for _, k := range tokens {
		if k.Kind == word.Mark && k.S == "(" {
			brackets++
		}
	}
	for _, q := range allWithin(p) {
		for _, kid := range q.Kids {
			if q.Op == 5 && kid.Op >= 6 || q.Op == 6 && kid.Op == 7 {
				brackets--
			}
		}
	}
	r := reader{tokens: tokens}
	if back := r.either(); !reflect.DeepEqual(back, p) && !pred.Same(back, p) || r.tokens[r.at].Kind != word.End {
		t.Fatalf("Text(%+v) = %q, which is read as %+v", p, text, back)
	}
	if brackets != 0 || !spaced(text, tokens) {
		t.Fatalf("Text(%+v) = %q, with %d brackets too many, or blanks", p, text, brackets)
	}
}

// tokensOf is the tokens of a text, which may be longer than a query: it is taken in pieces.
func tokensOf(t *testing.T, text string) []word.Token {
	t.Helper()
	var tokens []word.Token
	for text != "" {
		cut := len(text)
		for cut > 400 || strings.Count(text[:cut], "'")%2 == 1 {
			cut = strings.LastIndex(text[:cut], " ")
		}
		some, _, err := word.All(text[:cut])
		if err != api.OK {
			t.Fatalf("%q has a piece of error %d", text, err)
		}
		tokens = append(tokens, some[:len(some)-1]...)
		text = text[cut:]
	}
	return append(tokens, word.Token{})
}

// source draws numbers by a rule.
type source uint32

// below is the next number, below n.
func (s *source) below(n int) int {
	*s = *s*1664525 + 1013904223
	return int(*s>>8) % n
}

// pred draws a predicate that may be, unless it has too many within it, or is too deep.
func (s *source) pred(levels int) api.Pred {
	if levels == 1 || s.below(4) == 0 {
		return leaves()[s.below(len(leaves()))]
	}
	op := 5 + s.below(3)
	if op == 5 {
		return not(s.pred(levels - 1))
	}
	p := api.Pred{Op: op}
	for range 2 + s.below(3) {
		kid := s.pred(levels - 1)
		if kid.Op != op {
			p.Kids = append(p.Kids, kid)
		}
	}
	for len(p.Kids) < 2 {
		p.Kids = append(p.Kids, every())
	}
	return p
}

// copyOf is p, sharing nothing.
func copyOf(p api.Pred) api.Pred {
	kids := p.Kids
	p.Kids = nil
	for _, kid := range kids {
		p.Kids = append(p.Kids, copyOf(kid))
	}
	return p
}

// within is the predicate within p of that number, p being 0, as a thing to be changed.
func within(p *api.Pred, at *int) *api.Pred {
	if *at == 0 {
		return p
	}
	for i := range p.Kids {
		*at--
		if found := within(&p.Kids[i], at); found != nil {
			return found
		}
	}
	return nil
}

// changes is ways to change one field of a predicate.
func changes() []func(p *api.Pred) {
	return []func(p *api.Pred){
		func(p *api.Pred) { p.Op++ },
		func(p *api.Pred) { p.Op-- },
		func(p *api.Pred) { p.Op = -p.Op },
		func(p *api.Pred) { p.Op += 1 << 32 },
		func(p *api.Pred) { p.Col = "" },
		func(p *api.Pred) { p.Col += "x" },
		func(p *api.Pred) { p.Col = "A" },
		func(p *api.Pred) { p.Col = "null" },
		func(p *api.Pred) { p.Col = "c" },
		func(p *api.Pred) { p.Cmp++ },
		func(p *api.Pred) { p.Cmp-- },
		func(p *api.Pred) { p.Cmp += 6 },
		func(p *api.Pred) { p.Cmp = -p.Cmp - 1 },
		func(p *api.Pred) { p.Val.Null = true },
		func(p *api.Pred) { p.Val.I++ },
		func(p *api.Pred) { p.Val.I += 2 },
		func(p *api.Pred) { p.Val.S += "x" },
		func(p *api.Pred) { p.Val.S += x(41) },
		func(p *api.Pred) { p.Val = null },
		func(p *api.Pred) { p.Kind++ },
		func(p *api.Pred) { p.Kind-- },
		func(p *api.Pred) { p.Kind += 4 },
		func(p *api.Pred) { p.Pat += "%" },
		func(p *api.Pred) { p.Pat += x(40) },
		func(p *api.Pred) { p.Kids = append(p.Kids, isNull("a")) },
		func(p *api.Pred) { p.Kids = append(p.Kids, copyOf(*p)) },
		func(p *api.Pred) { p.Kids = p.Kids[:len(p.Kids)/2] },
		func(p *api.Pred) { p.Kids = append(p.Kids, api.Pred{}) },
	}
}

func TestExample(t *testing.T) { // P17.1, P17.2, P17.3
	p := and(num("a", api.CmpLt, 5), or(isNull("b"), not(like("c", "x%"))))
	if got := pred.Text(p); got != "a < 5 and (b is null or not c like 'x%')" {
		t.Errorf("Text = %q", got)
	}
	if !pred.May(p) || pred.Fits(columns(), p) != api.OK || !slices.Equal(pred.Cols(p), []string{"a", "b", "c"}) {
		t.Error("the example may not be, or not fit, or has other names")
	}
}

func TestMayOfEachKind(t *testing.T) { // P17.1
	for _, p := range whole() {
		if !pred.May(p) {
			t.Errorf("%+v may not be", p)
		}
		wantRight(t, p)
	}
	for _, op := range []int{0, -1, 8, 9, -7, 1<<32 + 1, 1<<32 + 3, math.MaxInt, math.MinInt} {
		for _, p := range []api.Pred{{Op: op}, {Op: op, Col: "a"}, {Op: op, Kids: times(1, every())}, {Op: op, Kids: times(2, every())}} {
			if pred.May(p) || wantRight(t, p) {
				t.Errorf("%+v may be", p)
			}
		}
	}
}

func TestMayOfNothingElse(t *testing.T) { // P17.1
	fields := []func(p *api.Pred){
		func(p *api.Pred) { p.Col = "a" }, func(p *api.Pred) { p.Cmp = 1 }, func(p *api.Pred) { p.Val = n(1) }, func(p *api.Pred) { p.Val = s("x") },
		func(p *api.Pred) { p.Val = null }, func(p *api.Pred) { p.Kind = 1 }, func(p *api.Pred) { p.Pat = "x" }, func(p *api.Pred) { p.Kids = times(2, every()) },
	}
	may := map[int]string{1: "", 3: "0", 4: "06", 5: "", 6: "7", 7: "7"} // the places of fields that a kind has
	for op, its := range may {
		base := map[int]api.Pred{1: every(), 3: isNull("b"), 4: like("b", "y"), 5: not(every()), 6: and(every(), every()), 7: or(every(), every())}[op]
		for i, set := range fields {
			p := copyOf(base)
			set(&p)
			if got, want := pred.May(p), strings.Contains(its, strconv.Itoa(i)); got != want {
				t.Errorf("May(%+v) = %v", p, got)
			}
			wantRight(t, p)
		}
	}
	for i, set := range fields[6:] {
		p := num("a", 1, 1)
		set(&p)
		if pred.May(p) {
			t.Errorf("a PrCmp with field %d may be", 6+i)
		}
	}
}

func TestMayOfNames(t *testing.T) { // P17.1
	for _, name := range []string{"", "A", "1a", "_a", "a-b", "a b", "é", "null", "all", "count", "and", "abcdefghijklm", "a\x00", "a'"} {
		for _, p := range []api.Pred{num(name, 1, 1), isNull(name), like(name, "x")} {
			if pred.May(p) || pred.May(not(p)) || pred.Fits(columns(), p) != api.ErrArg {
				t.Errorf("%+v may be", p)
			}
		}
	}
	for _, name := range []string{"a", "z9_", "abcdefghijkl", "a1", "nulls"} {
		for _, p := range []api.Pred{num(name, 1, 1), isNull(name), like(name, "x")} {
			if !pred.May(p) || !pred.May(not(p)) {
				t.Errorf("%+v may not be", p)
			}
		}
	}
}

func TestMayOfComparisons(t *testing.T) { // P17.1
	for _, cmp := range []int{0, -1, 7, 8, -6, 1<<32 + 1, math.MaxInt, math.MinInt} {
		for _, p := range []api.Pred{num("a", cmp, 1), truth("a", cmp, 1), textual("a", cmp, "x")} {
			if pred.May(p) || pred.Text(p) != "" {
				t.Errorf("%+v may be", p)
			}
		}
	}
	for _, kind := range []int{0, -1, 4, 5, 1<<32 + 1, math.MaxInt, math.MinInt} {
		for _, val := range []api.Cell{{}, n(1), s("x"), null} {
			if p := (api.Pred{Op: api.PrCmp, Col: "a", Cmp: 1, Kind: kind, Val: val}); pred.May(p) {
				t.Errorf("%+v may be", p)
			}
		}
	}
	vals := []api.Cell{{}, n(1), n(-1), n(2), n(math.MaxInt64), n(math.MinInt64), s("x"), s("é\xff'\x00"), s(x(40)), s(x(41)), null,
		{Null: true, I: 1}, {Null: true, S: "x"}, {I: 1, S: "x"}, {I: 0, S: x(40)}}
	may := map[int]string{1: "111111", 2: "11", 3: "1.....111.....1"}
	for kind, some := range may {
		for i, val := range vals {
			p := api.Pred{Op: api.PrCmp, Col: "a", Cmp: 2, Kind: kind, Val: val}
			if got, want := pred.May(p), i < len(some) && some[i] == '1'; got != want {
				t.Errorf("May(%+v) = %v", p, got)
			}
		}
	}
}

func TestMayOfPatterns(t *testing.T) { // P17.1
	for _, pattern := range []string{"", "%", "_", "x%", x(40), strings.Repeat("é", 20), strings.Repeat("\xff", 40), "'", "A", "\x00", "null"} {
		if !pred.May(like("a", pattern)) {
			t.Errorf("like %q may not be", pattern)
		}
	}
	for _, pattern := range []string{x(41), strings.Repeat("é", 20) + "x", x(1000), x(1 << 20), strings.Repeat("%", 41)} {
		if pred.May(like("a", pattern)) || pred.May(and(every(), not(like("a", pattern)))) {
			t.Errorf("a pattern of %d bytes may be", len(pattern))
		}
	}
}

func TestMayOfKids(t *testing.T) { // P17.1
	for many := range 20 {
		kids := times(many, isNull("a"))
		want := map[int]bool{1: many == 0, 3: many == 0, 4: many == 0, 5: many == 1, 6: many >= 2 && many <= 15, 7: many >= 2 && many <= 15}
		for op := 1; op <= 7; op++ {
			p := api.Pred{Op: op, Kids: kids}
			if op >= 2 && op <= 4 {
				p.Col = "a"
			}
			if got := pred.May(p); got != want[op] {
				t.Errorf("with %d Kids kind %d: %v", many, op, got)
			}
			wantRight(t, p)
		}
	}
	a, b := isNull("a"), isNull("b")
	for _, p := range []api.Pred{and(and(a, b), b), and(a, and(a, b)), and(a, b, and(a, b)), or(or(a, b), b), or(a, or(a, b)), or(a, b, a, or(a, b)), not(and(a, and(a, b)))} {
		if pred.May(p) {
			t.Errorf("%+v may be", p)
		}
	}
	for _, p := range []api.Pred{and(or(a, b), b), or(a, and(a, b)), not(not(a)), not(not(not(a))), and(not(and(a, b)), a), or(a, not(or(a, b))), and(every(), every()), and(a, a)} {
		if !pred.May(p) {
			t.Errorf("%+v may not be", p)
		}
	}
	for _, wrong := range []api.Pred{{}, {Op: 8}, num("", 1, 1), isNull("null"), like("a", x(41)), not(api.Pred{}), and(a), or(a), and(), not(and(a, and(a, b)))} {
		for _, p := range []api.Pred{wrong, not(wrong), and(a, wrong), or(wrong, a), and(a, or(b, not(wrong))), and(a, b, a, wrong)} {
			if pred.May(p) {
				t.Errorf("%+v may be", p)
			}
		}
	}
}

func TestMayOfNodesAndDepth(t *testing.T) { // P17.1
	a := isNull("a")
	for levels := 1; levels <= 9; levels++ {
		if got := pred.May(deep(levels)); got != (levels <= 6) {
			t.Errorf("%d deep: %v", levels, got)
		}
		if got := pred.May(nots(levels-1, a)); got != (levels <= 6) {
			t.Errorf("%d deep, of nots: %v", levels, got)
		}
		if got := pred.May(and(a, a, a, nots(levels-2, a))); levels > 1 && got != (levels <= 6) {
			t.Errorf("%d deep, the last of the Kids: %v", levels, got)
		}
	}
	for many := range 40 {
		for _, p := range []api.Pred{and(a, or(times(many, a)...)), or(and(times(many, a)...), and(a, a)), and(not(a), not(a), or(times(many, not(a))...))} {
			if got, want := pred.May(p), len(allWithin(p)) <= 16 && many >= 2; got != want {
				t.Errorf("of %d predicates: %v", len(allWithin(p)), got)
			}
		}
	}
	if p := or(and(times(7, a)...), and(times(6, a)...)); !pred.May(p) || len(allWithin(p)) != 16 {
		t.Error("one of 16 may not be")
	}
	if p := or(and(times(7, a)...), and(times(7, a)...)); pred.May(p) {
		t.Error("one of 17 may be")
	}
}

func TestEmptyKids(t *testing.T) { // P17.1, P17.2, rule 3
	for _, p := range leaves() {
		q := p
		q.Kids = []api.Pred{}
		if !pred.May(q) || !pred.Same(p, q) || !pred.Same(q, p) || pred.Text(p) != pred.Text(q) || pred.Fits(columns(), q) != api.OK {
			t.Errorf("%+v is another one with empty Kids", p)
		}
	}
}

func TestFits(t *testing.T) { // P17.2
	for _, p := range whole() {
		if got := pred.Fits(columns(), p); got != api.OK {
			t.Errorf("Fits(columns, %+v) = %d", p, got)
		}
	}
	cols := columns()
	for _, p := range []api.Pred{
		num("b", 1, 1), num("c", 1, 1), num("e", 1, 1), num("g", 1, 1), truth("a", 1, 1), truth("c", 1, 0), truth("d", 2, 0), textual("a", 1, "x"), textual("b", 1, ""),
		like("a", "x"), like("b", "x"), like("d", "%"), like("e", ""), like("g", "x"), isNull("g"), isNull("aa"), num("aa", 1, 1),
	} {
		for _, q := range []api.Pred{p, not(p), and(every(), p), or(p, num("a", 1, 1)), and(isNull("a"), or(every(), not(p)))} {
			if got := pred.Fits(cols, q); got != api.ErrType {
				t.Errorf("Fits(columns, %+v) = %d", q, got)
			}
		}
		bad := and(p, api.Pred{})
		if got := pred.Fits(cols, bad); got != api.ErrArg {
			t.Errorf("Fits(columns, %+v) = %d", bad, got)
		}
	}
	for _, op := range []int{0, 8, -1} {
		if got := pred.Fits(cols, api.Pred{Op: op}); got != api.ErrArg {
			t.Errorf("Fits of kind %d = %d", op, got)
		}
	}
}

func TestFitsOfColumns(t *testing.T) { // P17.2
	a := api.Col{Name: "a", Type: api.TyInt}
	many := append(columns(), api.Col{Name: "g", Type: api.TyInt})
	for _, cols := range [][]api.Col{nil, {}, {a, a}, {{Name: "a"}}, {{Name: "A", Type: 1}}, {{Name: "a", Type: 4}}, {a, {Name: "null", Type: 1}}, many} {
		for _, p := range []api.Pred{every(), num("a", 1, 1), isNull("a"), isNull("z"), like("a", "x"), {}, not(api.Pred{})} {
			if got := pred.Fits(cols, p); got != api.ErrArg {
				t.Errorf("Fits(%+v, %+v) = %d", cols, p, got)
			}
		}
	}
	for _, cols := range [][]api.Col{{a}, {{Name: "b", Type: api.TyText}, a}, columns()} {
		if got := pred.Fits(cols, and(num("a", 3, 7), every(), isNull("a"))); got != api.OK {
			t.Errorf("Fits(%+v) = %d", cols, got)
		}
		if got := pred.Fits(cols, every()); got != api.OK {
			t.Errorf("Fits(%+v, all) = %d", cols, got)
		}
	}
}

func TestSame(t *testing.T) { // P17.2
	l := append(whole(), api.Pred{}, api.Pred{Op: 9}, and(), not(api.Pred{}), api.Pred{Op: 1, Col: "a"}, and(every()), api.Pred{Val: null}, api.Pred{Op: 6, Pat: x(100)})
	for i, a := range l {
		for j, b := range l {
			if got := pred.Same(a, copyOf(b)); got != (i == j) {
				t.Errorf("Same(%+v, %+v) = %v", a, b, got)
			}
		}
	}
	a, b := isNull("a"), isNull("b")
	unlike := [][2]api.Pred{{and(a, b), and(b, a)}, {and(a, b), and(a, b, b)}, {and(a, b, b), and(a, b)}, {and(a, b), or(a, b)}, {not(a), not(b)}, {not(a), a}, {and(a, or(a, b)), and(a, or(b, b))}, {not(not(a)), not(not(not(a)))}}
	for _, two := range unlike {
		if pred.Same(two[0], two[1]) || pred.Same(two[1], two[0]) {
			t.Errorf("%+v is the same", two)
		}
	}
}

func TestSameOfEachField(t *testing.T) { // P17.2
	for _, base := range []api.Pred{{}, num("a", 2, 3), textual("b", 1, "x"), like("c", "%"), and(isNull("a"), not(like("c", "x")))} {
		for at := range len(allWithin(base)) {
			for i, change := range changes() {
				p, place := copyOf(base), at
				change(within(&p, &place))
				if got, want := pred.Same(base, p), sameByRule(base, p); got != want || pred.Same(p, base) != want {
					t.Errorf("Same(%+v, changed by %d) = %v", base, i, got)
				}
			}
		}
	}
}

// sameByRule is whether a and b are the same, with an empty list as nil.
func sameByRule(a, b api.Pred) bool { return reflect.DeepEqual(copyOf(a), copyOf(b)) }

func TestCols(t *testing.T) { // P17.2
	for _, c := range []struct {
		p    api.Pred
		want string
	}{
		{every(), ""}, {not(every()), ""}, {and(every(), every()), ""}, {isNull("b"), "b"}, {like("zz", "x"), "zz"}, {num("a", 1, 1), "a"}, {truth("abcdefghijkl", 1, 1), "abcdefghijkl"},
		{and(isNull("b"), isNull("a")), "b a"}, {or(isNull("b"), like("a", "c"), num("b", 1, 1)), "b a"}, {and(isNull("c"), or(isNull("b"), isNull("c")), isNull("a")), "c b a"},
		{not(and(not(isNull("z")), or(isNull("y"), and(isNull("z"), isNull("x"))))), "z y x"}, {and(every(), isNull("a"), isNull("a"), isNull("a")), "a"},
		{and(isNull("i"), isNull("h"), isNull("g"), isNull("f"), isNull("e"), isNull("d"), isNull("c"), isNull("b"), isNull("a"), isNull("b")), "i h g f e d c b a"},
		{api.Pred{Op: 3}, ""}, {api.Pred{Op: 1, Col: "a"}, ""}, {api.Pred{Op: 8, Col: "a"}, ""}, {and(isNull("a")), ""}, {and(isNull("a"), api.Pred{}), ""},
	} {
		if got := pred.Cols(c.p); strings.Join(got, " ") != c.want {
			t.Errorf("Cols(%+v) = %q, want %q", c.p, got, c.want)
		}
	}
}

func TestText(t *testing.T) { // P17.3
	a, b, c := isNull("a"), num("b", api.CmpGe, -7), like("c", "it's%")
	for want, p := range map[string]api.Pred{
		"all": every(), "a is null": a, "b >= -7": b, "c like 'it''s%'": c, "c like ''": like("c", ""),
		"a = 0": num("a", 1, 0), "a <> 1": num("a", 2, 1), "a < 2": num("a", 3, 2), "a <= 3": num("a", 4, 3), "a > 4": num("a", 5, 4), "a >= 5": num("a", 6, 5),
		"a = -9223372036854775808": num("a", 1, math.MinInt64), "a = 9223372036854775807": num("a", 1, math.MaxInt64),
		"a = true": truth("a", 1, 1), "a < false": truth("a", 3, 0), "a <> ''": textual("a", 2, ""), "a <= 'x'": textual("a", 4, "x"), "a = ''''": textual("a", 1, "'"), "a = ' '": textual("a", 1, " "),
		"a = '1'": textual("a", 1, "1"), "a = 'true'": textual("a", 1, "true"), "a = 'null'": textual("a", 1, "null"), "a = 1": truthless("a"),
		"not a is null": not(a), "not b >= -7": not(b), "not c like 'it''s%'": not(c), "not all": not(every()), "not not a is null": not(not(a)),
		"not not not not not all":                                    nots(5, every()),
		"not (a is null and b >= -7)":                                not(and(a, b)),
		"not (a is null or b >= -7)":                                 not(or(a, b)),
		"not not (a is null or all)":                                 not(not(or(a, every()))),
		"a is null and b >= -7":                                      and(a, b),
		"a is null or b >= -7":                                       or(a, b),
		"a is null and b >= -7 and c like 'it''s%'":                  and(a, b, c),
		"a is null or all or a is null":                              or(a, every(), a),
		"(a is null or b >= -7) and all":                             and(or(a, b), every()),
		"all and (a is null or b >= -7)":                             and(every(), or(a, b)),
		"a is null and b >= -7 or all":                               or(and(a, b), every()),
		"all or a is null and b >= -7":                               or(every(), and(a, b)),
		"(a is null or all) and (b >= -7 or all)":                    and(or(a, every()), or(b, every())),
		"a is null and all or b >= -7 and all":                       or(and(a, every()), and(b, every())),
		"not a is null and not b >= -7":                              and(not(a), not(b)),
		"not (a is null or all) and all":                             and(not(or(a, every())), every()),
		"not a is null or all":                                       or(not(a), every()),
		"not ((a is null or all) and all)":                           not(and(or(a, every()), every())),
		"not (a is null and all or all)":                             not(or(and(a, every()), every())),
		"(a is null and (b >= -7 or all) or all) and c like ')('":    and(or(and(a, or(b, every())), every()), like("c", ")(")),
		"a is null and not (not (all or a is null) and a = '( x )')": and(a, not(and(not(or(every(), a)), textual("a", 1, "( x )")))),
	} {
		if got := pred.Text(p); got != want {
			t.Errorf("Text = %q, want %q", got, want)
		}
	}
	for _, p := range []api.Pred{{}, {Op: 8}, {Op: -1}, and(a), and(), or(a), not(api.Pred{}), and(a, and(a, b)), isNull(""), isNull("and"), num("a", 0, 1), num("a", 7, 1), like("a", x(41)), nots(6, a), and(times(16, a)...), {Op: 1, Col: "a"}} {
		if got := pred.Text(p); got != "" {
			t.Errorf("Text(%+v) = %q", p, got)
		}
	}
}

// truthless is the comparison with 1, the number.
func truthless(col string) api.Pred { return num(col, api.CmpEq, 1) }

func TestValue(t *testing.T) { // P17.3
	for _, c := range []struct {
		ty   int
		c    api.Cell
		want string
	}{
		{1, n(0), "0"}, {1, n(-5), "-5"}, {1, n(math.MinInt64), "-9223372036854775808"}, {1, n(math.MaxInt64), "9223372036854775807"}, {1, null, "null"}, {1, s("x"), "0"},
		{2, n(0), "false"}, {2, n(1), "true"}, {2, n(2), "true"}, {2, n(-1), "true"}, {2, n(math.MinInt64), "true"}, {2, n(1 << 32), "true"}, {2, null, "null"}, {2, s("x"), "false"},
		{3, s(""), "''"}, {3, s("x"), "'x'"}, {3, s("it's"), "'it''s'"}, {3, s("\xff\x00é"), "'\xff\x00é'"}, {3, null, "null"}, {3, n(7), "''"}, {3, s("null"), "'null'"},
		{1, api.Cell{Null: true, I: 5}, "null"}, {2, api.Cell{Null: true, I: 1}, "null"}, {3, api.Cell{Null: true, S: "x"}, "null"},
		{0, null, "null"}, {4, null, "null"}, {-1, null, "null"},
	} {
		if got := pred.Value(c.ty, c.c); got != c.want {
			t.Errorf("Value(%d, %+v) = %q, want %q", c.ty, c.c, got, c.want)
		}
	}
	for _, ty := range []int{0, 4, -1, -2, 5, 1<<32 + 1, 1<<32 + 3, math.MaxInt, math.MinInt} {
		for _, c := range []api.Cell{{}, n(1), s("x")} {
			if got := pred.Value(ty, c); got != "" {
				t.Errorf("Value(%d, %+v) = %q", ty, c, got)
			}
		}
	}
	long := strings.Repeat("x'", 100000)
	if got := pred.Value(api.TyText, s(long)); got != "'"+strings.Repeat("x''", 100000)+"'" {
		t.Errorf("Value of a long text has %d bytes", len(got))
	}
}

// small is all predicates that may be of leaves of so few kinds, so deep at most.
func small(levels int) []api.Pred {
	l := []api.Pred{every(), isNull("a"), num("a", 1, 1)}
	for range levels - 1 {
		next := slices.Clone(l[:3])
		for _, p := range l {
			next = append(next, not(p))
			for _, q := range l {
				next = append(next, and(p, q), or(p, q))
			}
		}
		for _, p := range l[:3] {
			for _, q := range l[:3] {
				for _, r := range l[:3] {
					next = append(next, and(p, q, r), or(p, q, r))
				}
			}
		}
		l = slices.DeleteFunc(next, func(p api.Pred) bool { return !pred.May(p) })
	}
	return l
}

func TestUnlikeTexts(t *testing.T) { // P17.3, P17.4
	levels := 3
	known := map[string]api.Pred{}
	draw := source(4)
	l := append(small(levels), whole()...)
	for range 10000 {
		l = append(l, draw.pred(4))
	}
	for _, p := range l {
		if !wantRight(t, p) {
			continue
		}
		text := pred.Text(p)
		if q, ok := known[text]; ok && !sameByRule(p, q) {
			t.Fatalf("%q is the text of %+v and of %+v", text, p, q)
		}
		known[text] = p
	}
	if len(known) < 5000 {
		t.Errorf("just %d texts were told apart", len(known))
	}
}

func TestUnlikeTextsOfOneField(t *testing.T) { // P17.4
	known := map[string]bool{}
	count := 0
	for cmp := api.CmpEq; cmp <= api.CmpGe; cmp++ {
		for _, col := range []string{"a", "b", "is1", "true1"} {
			for _, i := range []int64{0, 1, -1, 10, 11} {
				known[pred.Text(num(col, cmp, i))] = true
				count++
			}
			for i := range int64(2) {
				known[pred.Text(truth(col, cmp, i))] = true
				count++
			}
			for _, v := range []string{"", "'", "''", "0", "true", "false", "null", "x", "X", " ", "x ", " x", "é", "\xff", "' and b = '", "' or '"} {
				known[pred.Text(textual(col, cmp, v))] = true
				known[pred.Text(like(col+strconv.Itoa(cmp), v))] = true
				count += 2
			}
		}
	}
	if len(known) != count || known[""] {
		t.Errorf("%d predicates have %d texts", count, len(known))
	}
}

func TestChanged(t *testing.T) { // P17.1, P17.2, P17.3
	may := 0
	for _, base := range whole() {
		for at := range len(allWithin(base)) {
			for _, change := range changes() {
				p, place := copyOf(base), at
				change(within(&p, &place))
				if wantRight(t, p) {
					may++
				}
			}
		}
	}
	if may < 1000 {
		t.Errorf("just %d of what was changed may be", may)
	}
}

func TestOfDrawn(t *testing.T) { // P17.1, P17.2, P17.3
	draw := source(17)
	may, changed := 0, 0
	for range 5000 {
		p := draw.pred(1 + draw.below(7))
		if wantRight(t, p) {
			may++
		}
		place := draw.below(len(allWithin(p)))
		p = copyOf(p)
		changes()[draw.below(len(changes()))](within(&p, &place))
		if wantRight(t, p) {
			changed++
		}
	}
	if may < 2000 || changed < 200 {
		t.Errorf("just %d drawn and %d changed ones may be", may, changed)
	}
}

func TestOfGreatOnes(t *testing.T) { // P17.1, rule 1
	wide := and(times(1<<17, isNull("a"))...)
	far := nots(1<<15, every())
	tree := isNull("a")
	for range 60 { // a tree of 2^60, that shares its Kids
		tree = api.Pred{Op: api.PrAnd, Kids: times(2, or(tree, tree))}
	}
	for _, p := range []api.Pred{wide, far, tree, not(wide), or(every(), wide), not(far)} {
		if pred.May(p) || pred.Text(p) != "" || pred.Fits(columns(), p) != api.ErrArg || len(pred.Cols(p)) != 0 {
			t.Errorf("one of kind %d, too great, may be", p.Op)
		}
	}
	if !pred.Same(wide, wide) || !pred.Same(far, far) || pred.Same(far, not(far)) || pred.Same(wide, and(times(1<<17-1, isNull("a"))...)) {
		t.Error("great ones are not the same, or others are")
	}
}

func TestOfItself(t *testing.T) { // P17.1, rule 1
	for _, op := range []int{api.PrNot, api.PrAnd} {
		kids := make([]api.Pred, op-4)
		for i := range kids {
			kids[i] = api.Pred{Op: 5 + i, Kids: kids}
		}
		p := api.Pred{Op: op, Kids: kids}
		if pred.May(p) || pred.Text(p) != "" || pred.Fits(columns(), p) != api.ErrArg || len(pred.Cols(p)) != 0 {
			t.Errorf("one of kind %d, that has itself within it, may be", op)
		}
	}
}

func TestNothingChanged(t *testing.T) { // rules 3 and 4
	for _, p := range whole() {
		q, cols := copyOf(p), columns()
		first, names := pred.Text(p), pred.Cols(p)
		pred.May(p)
		pred.Fits(cols, p)
		pred.Same(p, p)
		if !reflect.DeepEqual(copyOf(p), q) || !slices.Equal(cols, columns()) {
			t.Fatalf("what was handed in, %+v, was changed", q)
		}
		clear(names[:cap(names)])
		if again := pred.Cols(p); pred.Text(p) != first || !slices.Equal(again, colsByRule(p)) {
			t.Fatalf("asked again, %+v has other answers", p)
		}
	}
}
