package parse_test

import (
	"fmt"
	"math"
	"reflect"
	"slices"
	"strconv"
	"strings"
	"testing"

	"firkin/api"
	"firkin/parse"
	"firkin/pred"
	"firkin/query"
	"firkin/schema"
	"firkin/word"
)

// x is a name of so many bytes.
func x(size int) string { return strings.Repeat("x", size) }

// The predicates.
func every() api.Pred { return api.Pred{Op: api.PrAll} }
func num(col string, cmp int, i int64) api.Pred {
	return api.Pred{Op: api.PrCmp, Col: col, Cmp: cmp, Kind: api.TyInt, Val: api.Cell{I: i}}
}
func truth(col string, cmp int, i int64) api.Pred {
	return api.Pred{Op: api.PrCmp, Col: col, Cmp: cmp, Kind: api.TyBool, Val: api.Cell{I: i}}
}
func textual(col string, cmp int, s string) api.Pred {
	return api.Pred{Op: api.PrCmp, Col: col, Cmp: cmp, Kind: api.TyText, Val: api.Cell{S: s}}
}
func isNull(col string) api.Pred        { return api.Pred{Op: api.PrNull, Col: col} }
func like(col, pattern string) api.Pred { return api.Pred{Op: api.PrLike, Col: col, Pat: pattern} }
func not(kid api.Pred) api.Pred         { return api.Pred{Op: api.PrNot, Kids: []api.Pred{kid}} }
func and(kids ...api.Pred) api.Pred     { return api.Pred{Op: api.PrAnd, Kids: kids} }
func or(kids ...api.Pred) api.Pred      { return api.Pred{Op: api.PrOr, Kids: kids} }

// The aggregates, and the two kinds of queries, of the table t.
func count() api.Agg                 { return api.Agg{Op: api.AgCount} }
func agg(op int, col string) api.Agg { return api.Agg{Op: op, Col: col} }
func plain(where api.Pred, cols ...string) api.Query {
	return api.Query{Table: "t", Cols: cols, Where: where}
}
func fold(where api.Pred, by string, list ...api.Agg) api.Query {
	return api.Query{Table: "t", Where: where, Aggs: list, By: by}
}

// samePred and sameQuery are whether all fields are the same, nil lists and empty ones among them.
func samePred(a, b api.Pred) bool {
	return reflect.DeepEqual(barePred(a), barePred(b))
}
func sameQuery(a, b api.Query) bool {
	return a.Table == b.Table && slices.Equal(a.Cols, b.Cols) && samePred(a.Where, b.Where) && slices.Equal(a.Aggs, b.Aggs) && a.By == b.By
}

// barePred is p with nil for empty lists.
func barePred(p api.Pred) api.Pred {
	var kids []api.Pred
	for _, kid := range p.Kids {
		kids = append(kids, barePred(kid))
	}
	p.Kids = kids
	return p
}

// wantPred and wantQuery are whether s is read as what is wanted.
func wantPred(t *testing.T, s string, want api.Pred) {
	t.Helper()
	got, n, err := parse.Where(s)
	if !samePred(got, want) || n != len(s) || err != api.OK {
		t.Fatalf("Where(%q) = %+v, %d, %d, want %+v, %d, 0", s, got, n, err, want, len(s))
	}
}
func wantQuery(t *testing.T, s string, want api.Query) {
	t.Helper()
	got, n, err := parse.Query(s)
	if !sameQuery(got, want) || n != len(s) || err != api.OK {
		t.Fatalf("Query(%q) = %+v, %d, %d, want %+v, %d, 0", s, got, n, err, want, len(s))
	}
}

// noPred and noQuery are whether s is answered with that error, and that place, and nothing else.
func noPred(t *testing.T, s string, at int, fault api.Errno) {
	t.Helper()
	got, n, err := parse.Where(s)
	if !samePred(got, api.Pred{}) || n != at || err != fault {
		t.Fatalf("Where(%q) = %+v, %d, %d, want nothing, %d, %d", s, got, n, err, at, fault)
	}
}
func noQuery(t *testing.T, s string, at int, fault api.Errno) {
	t.Helper()
	got, n, err := parse.Query(s)
	if !sameQuery(got, api.Query{}) || n != at || err != fault {
		t.Fatalf("Query(%q) = %+v, %d, %d, want nothing, %d, %d", s, got, n, err, at, fault)
	}
}

// grammar is the chapter's: of each part what it may be; ' is ahead of words and marks.
var grammar = map[string][]string{
	"query":  {"'select what 'from name where group End"},
	"where":  {"", "'where pred"},
	"group":  {"", "'group 'by name"},
	"what":   {"'*", "name names", "agg aggs"},
	"names":  {"", "', name names"},
	"aggs":   {"", "', agg aggs"},
	"agg":    {"'count '( '* ')", "call '( name ')"},
	"call":   {"'has", "'sum", "'min", "'max"},
	"alone":  {"pred End"},
	"pred":   {"both ors"},
	"ors":    {"", "'or both ors"},
	"both":   {"single ands"},
	"ands":   {"", "'and single ands"},
	"single": {"'not single", "'( pred ')", "'all", "name 'is 'null", "name 'like Text", "name mark value"},
	"mark":   {"'=", "'<>", "'<", "'<=", "'>", "'>="},
	"value":  {"Number", "Text", "'true", "'false"},
}

// matches is whether token is that end of the grammar.
func matches(end string, token word.Token) bool {
	switch end {
	case "End":
		return token.Kind == word.End
	case "name":
		return token.Kind == word.Name && schema.Name(token.S)
	case "Number":
		return token.Kind == word.Number
	case "Text":
		return token.Kind == word.Text
	}
	return (token.Kind == word.Name || token.Kind == word.Mark) && "'"+token.S == end
}

// part is a part of the grammar, how deep it stands, and what is behind it.
type part struct {
	what   string
	deep   int
	behind *part
}

// firsts is all that may be left with an end of the grammar as the first part, where p is left now.
func firsts(p *part) []*part {
	if p == nil {
		return nil
	}
	choices, inner := grammar[p.what]
	if !inner {
		return []*part{p}
	}
	if p.what == "single" && p.deep > api.MaxDepth {
		return nil
	}
	var list []*part
	for _, choice := range choices {
		left := p.behind
		words := strings.Fields(choice)
		for i := len(words) - 1; i >= 0; i-- {
			deep := p.deep
			if p.what == "single" {
				deep++
			}
			left = &part{words[i], deep, left}
		}
		list = append(list, firsts(left)...)
	}
	return list
}

// faultByRule is the first of tokens at which no right text goes on, told by trying all that the grammar has; -1 if there is none.
func faultByRule(what string, tokens []word.Token) int {
	left := []*part{{what, 1, nil}}
	for i, token := range tokens {
		var next []*part
		for _, p := range left {
			for _, f := range firsts(p) {
				if matches(f.what, token) {
					next = append(next, f.behind)
				}
			}
		}
		if len(next) == 0 {
			return i
		}
		left = next
	}
	return -1
}

// split is the pieces of tokens between those that say s and stand in no brackets.
func split(tokens []word.Token, s string) [][]word.Token {
	var list [][]word.Token
	begin, open := 0, 0
	for i, k := range tokens {
		switch {
		case k.Kind == word.Mark && k.S == "(":
			open++
		case k.Kind == word.Mark && k.S == ")":
			open--
		case open == 0 && k.Kind != word.Text && k.S == s:
			list = append(list, tokens[begin:i])
			begin = i + 1
		}
	}
	return append(list, tokens[begin:])
}

// predByRule is the predicate that all of tokens are, which are right.
func predByRule(tokens []word.Token) api.Pred {
	for i, between := range []string{"or", "and"} {
		if pieces := split(tokens, between); len(pieces) > 1 {
			p := api.Pred{Op: api.PrOr - i}
			for _, piece := range pieces {
				p.Kids = append(p.Kids, predByRule(piece))
			}
			return p
		}
	}
	switch tokens[0].S {
	case "not":
		return not(predByRule(tokens[1:]))
	case "(":
		return predByRule(tokens[1 : len(tokens)-1])
	case "all":
		return every()
	}
	return leafByRule(tokens)
}

// leafByRule is what three tokens, or of all two of three and a mark, ask of a column.
func leafByRule(tokens []word.Token) api.Pred {
	col, how, last := tokens[0].S, tokens[1].S, tokens[2]
	switch how {
	case "is":
		return isNull(col)
	case "like":
		return like(col, last.S)
	}
	cmp := slices.Index(strings.Fields("- = <> < <= > >="), how)
	switch {
	case last.Kind == word.Number:
		return num(col, cmp, last.N)
	case last.Kind == word.Text:
		return textual(col, cmp, last.S)
	case last.S == "true":
		return truth(col, cmp, 1)
	}
	return truth(col, cmp, 0)
}

// queryByRule is the query that all of tokens are, which are right.
func queryByRule(tokens []word.Token) api.Query {
	q := api.Query{Where: every()}
	if by := split(tokens, "group"); len(by) == 2 {
		tokens, q.By = by[0], by[1][1].S
	}
	if where := split(tokens, "where"); len(where) == 2 {
		tokens, q.Where = where[0], predByRule(where[1])
	}
	from := split(tokens[1:], "from")
	q.Table = from[1][0].S
	for _, piece := range split(from[0], ",") {
		switch {
		case piece[0].S == "*":
		case len(piece) == 1:
			q.Cols = append(q.Cols, piece[0].S)
		case piece[0].S == "count":
			q.Aggs = append(q.Aggs, count())
		default:
			q.Aggs = append(q.Aggs, agg(slices.Index(strings.Fields("- - has sum min max"), piece[0].S), piece[2].S))
		}
	}
	return q
}

// tellByRule is the tokens of s but for the End, whether they are right and, if not, what is to be answered.
func tellByRule(what, s string) (tokens []word.Token, at int, err api.Errno) {
	tokens, at, err = word.All(s)
	if err != api.OK {
		return nil, at, err
	}
	if i := faultByRule(what, tokens); i >= 0 {
		return nil, tokens[i].At, api.ErrText
	}
	return tokens[:len(tokens)-1], len(s), api.OK
}

// predRight is whether s is a predicate that may be; it must be answered as the chapter says.
func predRight(t *testing.T, s string) bool {
	t.Helper()
	tokens, at, err := tellByRule("alone", s)
	if err != api.OK {
		noPred(t, s, at, err)
		return false
	}
	want := predByRule(tokens)
	if !pred.May(want) {
		noPred(t, s, 0, api.ErrArg)
		return false
	}
	wantPred(t, s, want)
	return true
}

// queryRight is whether s is a query that may be; it must be answered as the chapter says.
func queryRight(t *testing.T, s string) bool {
	t.Helper()
	tokens, at, err := tellByRule("query", s)
	if err != api.OK {
		noQuery(t, s, at, err)
		return false
	}
	want := queryByRule(tokens)
	if !query.May(want) {
		noQuery(t, s, 0, api.ErrArg)
		return false
	}
	wantQuery(t, s, want)
	return true
}

// source draws numbers by a rule.
type source uint32

// below is the next number, below n.
func (s *source) below(n int) int {
	*s = *s*1664525 + 1013904223
	return int(*s>>8) % n
}

// one is one of list.
func one[T any](s *source, list ...T) T { return list[s.below(len(list))] }

// name draws a name.
func (s *source) name() string {
	return one(s, "a", "b", "c", "ab", "a_1", "nul", "int", "ors", x(12))
}

// text draws a text, words and marks of queries among them.
func (s *source) text() string {
	return one(s, "", "x", "%", "it's", "'", "''", "and", "a or b", " group by a", "(", ")", "*", ",", "ä\xff\n", "-1", x(40))
}

// leaf draws a predicate that has none within it.
func (s *source) leaf() api.Pred {
	switch s.below(8) {
	case 0:
		return every()
	case 1:
		return isNull(s.name())
	case 2:
		return like(s.name(), s.text())
	case 3:
		return textual(s.name(), 1+s.below(6), s.text())
	case 4:
		return truth(s.name(), 1+s.below(6), int64(s.below(2)))
	}
	return num(s.name(), 1+s.below(6), one[int64](s, 0, 1, -1, 10, -10, math.MaxInt64, math.MinInt64))
}

// pred draws a predicate, at times one that may not be.
func (s *source) pred(levels int) api.Pred {
	if levels <= 1 || s.below(4) == 0 {
		return s.leaf()
	}
	p := api.Pred{Op: api.PrNot + s.below(3)}
	for range 1 + (p.Op-api.PrNot+1)/2*(1+s.below(3)) {
		p.Kids = append(p.Kids, s.pred(levels-1-s.below(2)))
	}
	return p
}

// query draws a query, at times one that may not be.
func (s *source) query() api.Query {
	q := api.Query{Table: s.name(), Where: every()}
	if s.below(3) > 0 {
		q.Where = s.pred(1 + s.below(4))
	}
	if s.below(2) == 0 {
		for range s.below(5) {
			if name := s.name(); !slices.Contains(q.Cols, name) || s.below(9) == 0 {
				q.Cols = append(q.Cols, name)
			}
		}
		return q
	}
	for range 1 + s.below(4) {
		q.Aggs = append(q.Aggs, one(s, count(), agg(2+s.below(4), s.name())))
	}
	if s.below(2) == 0 {
		q.By = s.name()
	}
	return q
}

// pieces is all texts of so many of the list at most, a blank ahead of each.
func pieces(most int, list ...string) []string {
	all := []string{""}
	last := all
	for range most {
		var next []string
		for _, s := range last {
			for _, piece := range list {
				next = append(next, s+" "+piece)
			}
		}
		all, last = append(all, next...), next
	}
	return all
}

// written is token as a text has it.
func written(k word.Token) string {
	switch k.Kind {
	case word.Number:
		return word.Digits(k.N)
	case word.Text:
		return word.Quote(k.S)
	}
	return k.S
}

// others is the texts that are as s, but that a token is gone, is there twice, is another one, or has another one ahead of it; and the beginnings of s.
func others(s string, by ...string) []string {
	tokens, _, err := word.All(s)
	if err != api.OK {
		return []string{s}
	}
	var words []string
	for _, k := range tokens[:len(tokens)-1] {
		words = append(words, written(k))
	}
	var list []string
	add := func(parts ...[]string) { list = append(list, strings.Join(slices.Concat(parts...), " ")) }
	for i := range words {
		add(words[:i])
		add(words[:i], words[i+1:])
		add(words[:i+1], words[i:])
		for _, other := range by {
			add(words[:i], []string{other}, words[i+1:])
			add(words[:i], []string{other}, words[i:])
		}
	}
	for _, other := range by {
		add(words, []string{other})
	}
	return list
}

// allWords is one token of each kind that the grammar tells from the others, and some that it has no place for.
var allWords = strings.Fields("select from where group by and or not is null like true false all count has sum min max a t " + x(13) + " 5 -1 '' 'and' '(' '*' , ( ) * = <> <= >= < >")

// P19.1: the chapter's examples.
func TestExamples(t *testing.T) {
	wantQuery(t, "select * from t where not (a = 1 or b is null)", plain(not(or(num("a", 1, 1), isNull("b")))))
	noQuery(t, "select from", 7, api.ErrText)
}

// P19.1
func TestQueriesKnown(t *testing.T) {
	for s, want := range map[string]api.Query{
		"select * from t":                                              plain(every()),
		"select a from t":                                              plain(every(), "a"),
		"select b, a, zz from t":                                       plain(every(), "b", "a", "zz"),
		"select a,b,c,d,e,f from t":                                    plain(every(), "a", "b", "c", "d", "e", "f"),
		"select * from t where all":                                    plain(every()),
		"select * from t where (all)":                                  plain(every()),
		"select * from t where not all":                                plain(not(every())),
		"select a from t where a > 1 and b = 'x'":                      plain(and(num("a", 5, 1), textual("b", 1, "x")), "a"),
		"select count(*) from t":                                       fold(every(), "", count()),
		"select count ( * ) from t group by b":                         fold(every(), "b", count()),
		"select count(*), sum(a) from t group by b":                    fold(every(), "b", count(), agg(3, "a")),
		"select has(a), sum(b), min(c), max(d) from t":                 fold(every(), "", agg(2, "a"), agg(3, "b"), agg(4, "c"), agg(5, "d")),
		"select count(*), count(*), count(*), count(*) from t":         fold(every(), "", count(), count(), count(), count()),
		"select max(a), max(a) from t where b is null group by a":      fold(isNull("b"), "a", agg(5, "a"), agg(5, "a")),
		"select sum(a) from t where a < 1 or a > 9 group by b":         fold(or(num("a", 3, 1), num("a", 5, 9)), "b", agg(3, "a")),
		"\tselect\n*\tfrom\nt ":                                        plain(every()),
		"select*from t where(a=1)":                                     plain(num("a", 1, 1)),
		"select count(*)from t group by b":                             fold(every(), "b", count()),
		"select " + x(12) + " from t where " + x(12) + " is null":      plain(isNull(x(12)), x(12)),
		"select min(" + x(12) + ") from t group by " + x(12):           fold(every(), x(12), agg(4, x(12))),
		"select selected, fromage, wher, groups, bye, counts from t":   plain(every(), "selected", "fromage", "wher", "groups", "bye", "counts"),
		"select a from t where b = 'where c' and c like 'group by' ":   plain(and(textual("b", 1, "where c"), like("c", "group by")), "a"),
		"select a from t where b = '' or b <> ' from ' or b like ''''": plain(or(textual("b", 1, ""), textual("b", 2, " from "), like("b", "'")), "a"),
	} {
		wantQuery(t, s, want)
		if !queryRight(t, s) {
			t.Errorf("%q may not be", s)
		}
	}
	wantQuery(t, "select a from "+x(12), api.Query{Table: x(12), Cols: []string{"a"}, Where: every()})
	wantQuery(t, "select a from a where a is null", api.Query{Table: "a", Cols: []string{"a"}, Where: isNull("a")})
}

// P19.1
func TestPredicatesKnown(t *testing.T) {
	a, b, c, d := isNull("a"), isNull("b"), isNull("c"), isNull("d")
	for s, want := range map[string]api.Pred{
		"all":                         every(),
		"a is null":                   a,
		"a like 'x%'":                 like("a", "x%"),
		"a like ''":                   like("a", ""),
		"a = 0":                       num("a", api.CmpEq, 0),
		"a <> -1":                     num("a", api.CmpNe, -1),
		"a < 2":                       num("a", api.CmpLt, 2),
		"a <= 3":                      num("a", api.CmpLe, 3),
		"a > 4":                       num("a", api.CmpGt, 4),
		"a >= 5":                      num("a", api.CmpGe, 5),
		"a<=-5":                       num("a", api.CmpLe, -5),
		"a = 9223372036854775807":     num("a", 1, math.MaxInt64),
		"a > -9223372036854775808":    num("a", 5, math.MinInt64),
		"a = true":                    truth("a", 1, 1),
		"a <> false":                  truth("a", 2, 0),
		"a >= true":                   truth("a", 6, 1),
		"a < false":                   truth("a", 3, 0),
		"a = ''":                      textual("a", 1, ""),
		"a = 'true'":                  textual("a", 1, "true"),
		"a = '5'":                     textual("a", 1, "5"),
		"a > 'it''s \xff'":            textual("a", 5, "it's \xff"),
		"a <> 'null'":                 textual("a", 2, "null"),
		"not a is null":               not(a),
		"not not a is null":           not(not(a)),
		"not (a is null)":             not(a),
		"(a is null)":                 a,
		"((a is null))":               a,
		"(((((all)))))":               every(),
		"not ((not (all)))":           not(not(every())),
		"a is null or b is null":      or(a, b),
		"a is null and b is null":     and(a, b),
		"(a is null and b is null)":   and(a, b),
		"((a is null)or(b is null))":  or(a, b),
		"not a is null and b is null": and(not(a), b),
		"not a is null or b is null":  or(not(a), b),
		"not (a is null and b is null) and c is null":               and(not(and(a, b)), c),
		"a is null and not b is null":                               and(a, not(b)),
		"a is null or b is null or c is null":                       or(a, b, c),
		"a is null and b is null and c is null":                     and(a, b, c),
		"a is null and b is null or c is null":                      or(and(a, b), c),
		"a is null or b is null and c is null":                      or(a, and(b, c)),
		"(a is null or b is null) and c is null":                    and(or(a, b), c),
		"a is null and (b is null or c is null)":                    and(a, or(b, c)),
		"a is null and b is null or c is null and d is null":        or(and(a, b), and(c, d)),
		"(a is null or b is null) and (c is null or d is null)":     and(or(a, b), or(c, d)),
		"a is null or b is null and c is null or d is null":         or(a, and(b, c), d),
		"(a is null and b is null) or c is null":                    or(and(a, b), c),
		"a is null or (b is null and (c is null or d is null))":     or(a, and(b, or(c, d))),
		"a is null and not (b is null or c is null) or not d = 1":   or(and(a, not(or(b, c))), not(num("d", 1, 1))),
		"all and all or not all":                                    or(and(every(), every()), not(every())),
		"a like 'or' or b = 'and' and c <> 'not'":                   or(like("a", "or"), and(textual("b", 1, "and"), textual("c", 2, "not"))),
		"a < 5 and (b is null or not c like 'x%')":                  and(num("a", 3, 5), or(b, not(like("c", "x%")))),
		"a is null or not (b is null or c is null)":                 or(a, not(or(b, c))),
		"a is null and not (b is null and c is null)":               and(a, not(and(b, c))),
		"nul = 1 and trues = 2 and nots = 3 or alls = 4 or iss = 5": or(and(num("nul", 1, 1), num("trues", 1, 2), num("nots", 1, 3)), num("alls", 1, 4), num("iss", 1, 5)),
	} {
		wantPred(t, s, want)
		wantQuery(t, "select * from t where "+s, plain(want))
		wantQuery(t, "select max(a) from t where "+s+" group by b", fold(want, "b", agg(5, "a")))
		if !predRight(t, s) {
			t.Errorf("%q may not be", s)
		}
	}
}

// P19.2: where a text of a query is no right one, with | behind all that goes on.
func TestQueriesWrong(t *testing.T) {
	for _, s := range []string{
		"|", "|from t", "|* from t", "|'select' * from t", "|5", "|(select * from t)", "|selects * from t", "|all", "|a = 1",
		"select |", "select |from", "select |from t", "select |where", "select |'*' from t", "select |5 from t", "select |(a) from t", "select |, a from t", "select |'a' from t", "select |= from t", "select |select * from t",
		"select * |", "select * |, a from t", "select * |a from t", "select * |* from t", "select * |where all", "select * |'from' t", "select * |t",
		"select a |", "select a |b from t", "select a |* from t", "select a, |", "select a, |from t", "select a, |* from t", "select a, |, b from t", "select a, |count(*) from t", "select a, |sum(a) from t", "select a, b |(c) from t", "select a |(b) from t", "select a, |5 from t",
		"select |and from t", "select |null from t", "select |true from t", "select |all from t", "select |by from t", "select |" + x(13) + " from t", "select a, |" + x(13) + " from t", "select a, |not from t",
		"select count |", "select count |from t", "select count |* from t", "select count |, a from t", "select count( |", "select count( |) from t", "select count( |a) from t", "select count( |count(*)) from t", "select count(* |", "select count(* |, a) from t", "select count(* |* ) from t",
		"select count(*) |", "select count(*) |a from t", "select count(*), |", "select count(*), |a from t", "select count(*), |* from t", "select count(*), |from t", "select count(*) |(*) from t",
		"select sum |", "select sum |a from t", "select sum( |", "select sum( |* ) from t", "select has( |* ) from t", "select min( |) from t", "select max( |null) from t", "select min( |5) from t", "select max( |'a') from t", "select sum( |" + x(13) + ") from t", "select sum(a |", "select sum(a |, b) from t", "select sum(a |b) from t", "select sum(a), |b from t", "select sum(a) |b from t",
		"select * from |", "select * from |5", "select * from |'t'", "select * from |where all", "select * from |(t)", "select * from |" + x(13), "select * from |count", "select * from |, t", "select * from |* ",
		"select * from t |, u", "select * from t |t", "select * from t |all", "select * from t |a = 1", "select * from t |by a", "select * from t |5", "select * from t |'x'", "select * from t |(a)", "select * from t |) ", "select * from t |and all", "select * from t |select * from t", "select * from t |= 1",
		"select * from t where |", "select * from t where |group by a", "select * from t where |where all", "select * from t where |5 = a", "select * from t where a = 1 |where all", "select * from t where a = 1 |by a", "select * from t where a = 1 |a = 1", "select * from t where a = 1 |, a", "select * from t where a = 1 |)",
		"select count(*) from t group |", "select count(*) from t group |a", "select count(*) from t group |group by a", "select count(*) from t group by |", "select count(*) from t group by |5", "select count(*) from t group by |null", "select count(*) from t group by |" + x(13), "select count(*) from t group by |( a )", "select count(*) from t group by |* ",
		"select count(*) from t group by a |, b", "select count(*) from t group by a |where all", "select count(*) from t group by a |group by b", "select count(*) from t group by a |b", "select * from t group by a |and", "select count(*) from t |'group' by a",
		"select a, a from t |x", "select a from t group by a |x", "select a from t where b like '" + x(41) + "' |)",
	} {
		right, wrong, _ := strings.Cut(s, "|")
		noQuery(t, right+wrong, len(right), api.ErrText)
		queryRight(t, right+wrong)
		at := len("\n  ") + len(right)
		if wrong == "" { // the End is behind the blank that is at the end
			at++
		}
		noQuery(t, "\n  "+right+wrong+"\t", at, api.ErrText)
	}
}

// P19.2: where a text of a predicate is no right one.
func TestPredicatesWrong(t *testing.T) {
	for _, s := range []string{
		"|", "|and", "|or", "|is null", "|null", "|true", "|= 1", "|5", "|5 = a", "|'a' = 1", "|* ", "|,", "|)", "|where all", "|select", "|" + x(13) + " = 1", "|count", "|like 'x'", "|by", "|group by a",
		"a |", "a |and b", "a |or b", "a |a", "a |null", "a |true", "a |5", "a |'x'", "a |( )", "a |, b = 1", "a |not like 'x'", "a |all", "a |* ", "a |in", "a |group", "a |'=' 1", "a |'is' null", "a |) ",
		"a is |", "a is |not null", "a is |a", "a is |'null'", "a is |true", "a is |5", "a is |is null", "a is |nulls", "a is |= 5", "a is null |null", "a is null |is null", "a is null |= 1", "a is null |a is null", "a is null |) ", "a is null |( all)",
		"a like |", "a like |5", "a like |b", "a like |null", "a like |true", "a like |like 'x'", "a like |= 'x'", "a like |( 'x')", "a like 'x' |'y'", "a like 'x' |like 'y'",
		"a = |", "a = |b", "a = |null", "a = |= 1", "a = |all", "a = |not true", "a = |( 5)", "a = |and", "a <> |null", "a < |> 1", "a = |trues", "a = 1 |2", "a = 1 |= 1", "a = 1 |'x'", "a = 1 |b = 2", "a = 1 |not b = 2", "a = 1 |( b = 2)", "a = 1 |, b = 2", "a = 1 |all", "a = 1 |null", "a = true |false", "a = 'x' |'y'", "a > |= 1", "a = 1 |group by a", "a = 1 |where all", "a = 1 |from t", "a = 1 |'and' b = 2", "a = 1 |'or' b = 2",
		"a = 1 and |", "a = 1 or |", "a = 1 and |and b = 1", "a = 1 and |or b = 1", "a = 1 or |or b = 1", "a = 1 or |and b = 1", "a = 1 and |5", "a = 1 or |null", "a = 1 and |)", "a = 1 and b |", "a = 1 and b |and c = 1", "a = 1 or b |or c = 1", "a = 1 and |'b' = 1", "a = 1 or |group by a",
		"not |", "not |and a = 1", "not |5", "not |)", "not |'all'", "not a |", "not not |", "not all |all", "not a = 1 |2", "not |null", "not all |not all", "not |= 1",
		"( |", "( |)", "( |and", "( |5)", "( |'all')", "(all |", "(all |all", "(all |( all)", "(a |)", "(a = |)", "(a = 1 |b = 1)", "(a = 1 |", "(a = 1 and |)", "(a = 1) |)", "(a = 1) |a = 1", "(a = 1) |( a = 1)", "(a = 1) |= 1", "(a = 1 or b = 1 |", "((a = 1) |", "((a = 1) |a = 1)", "( |, a = 1)", "(a = 1 |, b = 1)", "(a |and b)", "(a = 1 |']'", "(a = 1 |')'",
		"all |= 1", "all |is null", "all |5", "all |) ", "all |a", "all |like 'x'", "all |* ",
		"(a = 1 or (b = 2 or c = 3)) |x", "a like '" + x(41) + "' |x",
	} {
		right, wrong, _ := strings.Cut(s, "|")
		noPred(t, right+wrong, len(right), api.ErrText)
		predRight(t, right+wrong)
		for _, front := range []string{"select * from t where ", "\n \t", "not ", "a = 1 or ", "a like 'or' and not b is null and "} {
			if front == "select * from t where " {
				if strings.HasPrefix(wrong, "group") && right != "" && faultless(right) {
					continue
				}
				noQuery(t, front+right+wrong, len(front+right), api.ErrText)
			} else {
				noPred(t, front+right+wrong, len(front+right), api.ErrText)
			}
		}
	}
}

// faultless is whether s is a right text of a predicate.
func faultless(s string) bool {
	_, _, err := tellByRule("alone", s)
	return err == api.OK
}

// P19.2: the tokens' errors are told ahead of all others.
func TestTokensErrors(t *testing.T) {
	for _, s := range []string{
		"|'", "|A", "select |? from t", "select from |?", "from from from |_", "select * from t |;", "select * from t where a = |01", "a = |-", "a = 1 and |'b", "a = 'x' |'", "a |! = 1", "select a from t group by a |.", "((((((((((|&",
		"( ( ( ( ( ( ( ( all |'", "select a|.b from t where", "a = |99999999999999999999", "select a, a from t |T", "a like 'x' like 'y' |\"", "a = 1 |\r\n", "select * from t|\x00", "|\xff", "|ä a", "not |-not", "' |",
	} {
		left, right, _ := strings.Cut(s, "|")
		at := len(left)
		if s == "' |" { // a text without an end
			at = 0
		}
		noQuery(t, left+right, at, api.ErrText)
		noPred(t, left+right, at, api.ErrText)
	}
	blanks := func(s string, size int) string { return s + strings.Repeat(" ", size-len(s)) }
	wantQuery(t, blanks("select * from t", 400), plain(every()))
	wantPred(t, blanks("a = 1", 400), num("a", 1, 1))
	noPred(t, blanks("a = ", 400), 400, api.ErrText)
	noQuery(t, blanks("select * from t group by a", 400), 0, api.ErrArg)
	for _, s := range []string{"", "select * from t", "a = 1", "select", "a like '" + x(41) + "'", "'", "?", "((((((((("} {
		noQuery(t, blanks(s, 401), 0, api.ErrLong)
		noPred(t, blanks(s, 401), 0, api.ErrLong)
		noQuery(t, blanks(s, 1<<20), 0, api.ErrLong)
		noPred(t, blanks(s, 1<<20), 0, api.ErrLong)
	}
}

// deepen is leaf within those of nots and brackets that the bits of set say, the outermost first.
func deepen(leaf string, levels, set int) string {
	front, behind := "", ""
	for i := range levels {
		if set>>i&1 == 1 {
			front += "not "
		} else {
			front, behind = front+"( ", ")"+behind
		}
	}
	return front + leaf + behind
}

// P19.2: a single stands at most MaxDepth deep, within nots and brackets.
func TestDepth(t *testing.T) {
	deeper := map[string]int{"all": -1, "a = 1": -1, "not b is null": 4, "(c like 'x')": 1} // where in it there is one that is deeper
	for levels := range 10 {
		for set := range 1 << levels {
			for leaf, inner := range deeper {
				s := deepen(leaf, levels, set)
				switch {
				case levels >= api.MaxDepth:
					noPred(t, s, wordAt(s, api.MaxDepth), api.ErrText)
				case levels == api.MaxDepth-1 && inner >= 0:
					noPred(t, s, strings.Index(s, leaf)+inner, api.ErrText)
				case !predRight(t, s):
					t.Fatalf("%q may not be", s)
				}
			}
			for _, leaf := range []string{"all", "not b is null", "a = 1 or not b = 2", "b = 2 and (all)", "b = 2 and not (all and all)"} {
				s := deepen(leaf, levels, set)
				predRight(t, s)
				queryRight(t, "select * from t where "+s)
				queryRight(t, "select count(*) from t where all and "+s+" group by b")
			}
		}
	}
}

// wordAt is where the word of s begins that has so many ahead of it.
func wordAt(s string, ahead int) int {
	at := 0
	for range ahead {
		at += strings.Index(s[at:], " ") + 1
	}
	return at
}

// P19.2: what is behind a single that is too deep is not asked, nor is what stands there; what is wrong ahead of it is told first.
func TestDepthPlaces(t *testing.T) {
	open, nots := strings.Repeat("(", 6), strings.Repeat("not ", 6)
	for _, wrong := range []string{"", "all", "a = 1", "5", ")", "and", "not", "(", "a", "a b c", ", ,", "'x'", "where", strings.Repeat("(", 100)} {
		noPred(t, open+wrong, 6, api.ErrText)
		noPred(t, nots+wrong, 24, api.ErrText)
		noQuery(t, "select * from t where "+open+wrong, 28, api.ErrText)
	}
	noPred(t, "a b "+open+"all", 2, api.ErrText)
	noPred(t, "a = 1 and "+open+"all", 16, api.ErrText)
	noPred(t, "((((( all ( all", 10, api.ErrText)
	noPred(t, "((((( all or ( all))))))", 15, api.ErrText)
	noPred(t, "((((( all or all and not all)))))", 25, api.ErrText)
	noQuery(t, "select 5 from t where "+open+"all", 7, api.ErrText)
	for _, between := range []string{"and", "or"} { // what is closed is left
		six, five := "(((((a = 1)))))", "((((a = 1))))"
		a := num("a", 1, 1)
		list := api.Pred{Op: api.PrAnd, Kids: []api.Pred{a, a, a}}
		if between == "or" {
			list.Op = api.PrOr
		}
		wantPred(t, strings.Join([]string{six, six, six}, between), list)
		wantPred(t, "not not not not a = 1 "+between+" "+six+between+" not not not "+"((a = 1))", api.Pred{Op: list.Op, Kids: []api.Pred{not(not(not(not(a)))), a, not(not(not(a)))}})
		wantPred(t, "("+strings.Join([]string{five, five, five}, between)+")", list)
		inner := "(" + six + ")"
		noPred(t, six+between+inner, len(six+between)+6, api.ErrText)
		noPred(t, inner+between+six, 6, api.ErrText)
	}
}

// P19.2: what is read, but may not be.
func TestMayNotBe(t *testing.T) {
	leaves := func(n int, between string) string {
		return strings.Join(slices.Repeat([]string{"a = 1"}, n), " "+between+" ")
	}
	for s, may := range map[string]bool{
		"a is null or (b is null or c is null)": false, "(a is null or b is null) or c is null": false, "a is null and (b is null and c is null)": false, "(a is null and b is null) and c is null": false, "a is null and ((b is null and c is null))": false,
		"(a is null or b is null)or(c is null or d is null)": false, "not (a is null or (b is null or c is null))": false, "a is null or b is null and (c is null and d is null)": false,
		"a is null or (b is null and c is null)": true, "a is null and (b is null or c is null)": true, "not (a is null or not (b is null or c is null))": true,
		"a like '" + x(40) + "'": true, "a like '" + x(41) + "'": false, "a = '" + x(40) + "'": true, "a = '" + x(41) + "'": false, "a like '" + strings.Repeat("''", 40) + "'": true, "a <> '" + strings.Repeat("''", 41) + "'": false, "b is null or not a like '" + x(41) + "'": false,
		leaves(15, "or"): true, leaves(16, "or"): false, leaves(15, "and"): true, leaves(16, "and"): false, leaves(30, "or"): false, "not (" + leaves(14, "or") + ")": true, "not (" + leaves(15, "or") + ")": false,
		leaves(7, "or") + " and b = 2 or not (" + leaves(4, "or") + ")": true, leaves(8, "or") + " and b = 2 or not (" + leaves(4, "or") + ")": false,
		"all or all and not (all or all and not all)": false, "all or all and not (all or all and all)": true, "not (all or all and not (all or all))": true, "not (all or all and not (all or not all))": false, "not not (all and (all or not all))": true, "all and not not (all and (all or not all))": false,
		"not not not (all and (all or all))": true, "(((((all)))))": true, "not not not not not all": true,
	} {
		if predRight(t, s) != may {
			t.Errorf("Where(%q) may be, or not", s)
		}
		if !may {
			noPred(t, s, 0, api.ErrArg)
			noPred(t, "\n"+s+" ", 0, api.ErrArg)
			noQuery(t, "select * from t where "+s, 0, api.ErrArg)
			noQuery(t, "select max(a) from t where "+s+" group by b", 0, api.ErrArg)
		}
	}
	for s, may := range map[string]bool{
		"select a, a from t": false, "select a, b, a from t": false, "select a,b,c,d,e,f from t": true, "select a,b,c,d,e,f,g from t": false, "select a,b,c,d,e,f,f from t": false,
		"select a from t group by a": false, "select a, b from t group by a": false, "select * from t group by a": false, "select * from t where all group by a": false, "select a from t where a = 1 group by b": false,
		"select count(*),count(*),count(*),count(*) from t": true, "select count(*),count(*),count(*),count(*),count(*) from t": false, "select has(a),sum(a),min(a),max(a),count(*) from t group by a": false, "select max(a) from t group by a": true,
		"select a, a from t group by a": false,
	} {
		if queryRight(t, s) != may {
			t.Errorf("Query(%q) may be, or not", s)
		}
		if !may {
			noQuery(t, s, 0, api.ErrArg)
			noQuery(t, "\t "+s+"\n", 0, api.ErrArg)
		}
	}
}

// P19.1, P19.2: all short texts of tokens.
func TestPredicatesShort(t *testing.T) {
	may := 0
	for _, list := range [][]string{
		pieces(3, allWords...),
		pieces(6, "a = 1", "not", "(", ")", "and", "or"),
		pieces(5, "all", "(", ")", "a", "is", "null", "like", "'x'"),
		pieces(5, "a", "<", "5", "true", "and", "b", "not"),
	} {
		for _, s := range list {
			if predRight(t, s) {
				may++
			}
		}
	}
	if may < 200 {
		t.Errorf("just %d may be", may)
	}
}

// P19.1, P19.2
func TestQueriesShort(t *testing.T) {
	may := 0
	for front, list := range map[string][]string{
		"":                               pieces(2, allWords...),
		"select":                         pieces(3, allWords...),
		"select ":                        pieces(7, "a", ",", "from", "*"),
		"select  ":                       pieces(3, "count(*)", "sum(a)", ",", "a", "from t", "*", "from", "(", ")", "count", "max"),
		"select   ":                      pieces(6, "count", "min", "(", "*", ")"),
		"select a from":                  pieces(2, allWords...),
		"select * from t":                pieces(3, "where", "group", "by", "a", "all", "a = 1", "b", "and", "5", "from", ",", "where all", "group by b"),
		"select count(*) from t":         pieces(4, "where", "group", "by", "a", "all", "where all", "group by b", "or"),
		"select has(a) from t where all": pieces(2, allWords...),
		"select count(*) from t group":   pieces(3, "by", "a", "b", "group", "where", "all", ",", "by b"),
		"select sum(a), ":                pieces(2, "count(*)", "sum(b)", "a", "from t", "*", "from", "sum", "min(a), max(b)"),
	} {
		for _, s := range list {
			for _, behind := range []string{"", " from t", " from t group by b"} {
				if queryRight(t, front+s+behind) {
					may++
				}
			}
		}
	}
	if may < 70 {
		t.Errorf("just %d may be", may)
	}
}

// P19.1, P19.2: each token of some texts, gone, there twice, another one, or with another one ahead of it.
func TestOneTokenOff(t *testing.T) {
	for _, s := range []string{
		"select * from t", "select a, b from t where a = 1 group by b", "select count(*), sum(a), has(b) from t where not (a = 'x' or b is null) and c like 'y' group by b",
		"select a from t where a <= 5 or b <> true and not not (all or c >= 'it''s')", "select min(a), max(b) from t group by a",
	} {
		if !queryRight(t, s) && !strings.HasPrefix(s, "select a, b") {
			t.Fatalf("%q may not be", s)
		}
		for _, other := range others(s, allWords...) {
			queryRight(t, other)
		}
	}
	for _, s := range []string{"a = 1 and (b is null or not c like 'x')", "not (((a < 'x' or b = false)))", "all or all and not all", "((((a = 1))))"} {
		if !predRight(t, s) {
			t.Fatalf("%q may not be", s)
		}
		for _, other := range others(s, allWords...) {
			predRight(t, other)
		}
	}
}

// P19.1, P19.2: drawn texts, right ones and such as are wrong in a token or two.
func TestOfDrawn(t *testing.T) {
	s := source(19)
	may, wrong := 0, 0
	for range 4000 {
		q := s.query()
		list := []string{query.Text(q)}
		if list[0] == "" || len(list[0]) > api.MaxQuery {
			continue
		}
		for range 2 {
			list = append(list, one(&s, others(one(&s, list...), one(&s, allWords...), one(&s, allWords...))...))
		}
		for _, text := range list {
			if queryRight(t, text) {
				may++
			} else {
				wrong++
			}
			if _, where, ok := strings.Cut(text, " where "); ok {
				predRight(t, where)
			}
		}
	}
	if may < 2000 || wrong < 2000 {
		t.Errorf("%d may be, and %d are wrong", may, wrong)
	}
}

// P19.3
func TestTextsReadBack(t *testing.T) {
	s := source(3)
	preds, queries := 0, 0
	for range 30000 {
		p := s.pred(1 + s.below(7))
		if text := pred.Text(p); pred.May(p) && len(text) <= api.MaxQuery {
			wantPred(t, text, p)
			preds++
		}
		q := s.query()
		if text := query.Text(q); query.May(q) && len(text) <= api.MaxQuery {
			wantQuery(t, text, q)
			queries++
		}
	}
	if preds < 10000 || queries < 10000 {
		t.Errorf("%d predicates, %d queries", preds, queries)
	}
}

// likes is a predicate of eight within one, whose patterns have so many bytes together.
func likes(size int) api.Pred {
	var kids []api.Pred
	for range 8 {
		kids = append(kids, like("a", x(min(size, api.MaxText))))
		size -= min(size, api.MaxText)
	}
	return or(kids...)
}

// P19.3: the longest texts that are read back, and those that are too long.
func TestLongTexts(t *testing.T) {
	for size := range 8*api.MaxText + 1 {
		p := likes(size)
		text := pred.Text(p)
		if len(text) != 100+size {
			t.Fatalf("%q has %d bytes", text, len(text))
		}
		q := plain(p)
		if size <= 300 {
			wantPred(t, text, p)
		} else {
			noPred(t, text, 0, api.ErrLong)
		}
		if size <= 278 {
			wantQuery(t, query.Text(q), q)
		} else {
			noQuery(t, query.Text(q), 0, api.ErrLong)
		}
	}
}

// shapes is all predicates of so many levels at most that have at most two within one.
func shapes(levels int) []api.Pred {
	list := []api.Pred{isNull("a"), textual("b", 3, "'")}
	if levels <= 1 {
		return list
	}
	inner := shapes(levels - 1)
	for _, p := range inner {
		list = append(list, not(p))
		for _, other := range inner {
			list = append(list, and(p, other), or(p, other))
		}
	}
	return list
}

// P19.3: all shapes, all comparisons of all values, the deepest and the greatest.
func TestShapesReadBack(t *testing.T) {
	back := 0
	read := func(p api.Pred) {
		if text := pred.Text(p); text != "" && len(text) <= api.MaxQuery {
			wantPred(t, text, p)
			back++
		}
	}
	for _, p := range shapes(3) {
		read(p)
		read(not(p))
		read(not(not(not(p))))
		read(or(and(p, every()), p))
		read(and(every(), or(every(), not(p)), p))
	}
	for cmp := api.CmpEq; cmp <= api.CmpGe; cmp++ {
		for _, i := range []int64{0, 1, -1, 42, math.MaxInt64, math.MinInt64} {
			read(num("a", cmp, i))
		}
		for b := range 256 {
			read(textual("a", cmp, string([]byte{byte(b)})))
			read(like("a", strconv.Itoa(cmp)+string([]byte{byte(b), '\''})))
		}
		read(truth("a", cmp, 0))
		read(truth("a", cmp, 1))
	}
	if back < 3000 {
		t.Errorf("just %d were read back", back)
	}
	back = 0
	deepest := []api.Pred{not(not(not(not(not(isNull("a")))))), and(every(), or(every(), and(every(), or(every(), and(every(), every()))))), or(every(), and(every(), or(every(), and(every(), or(every(), every()))))), not(and(every(), not(or(every(), not(every()))))), not(or(every(), not(or(every(), not(every())))))}
	for _, p := range append(deepest, or(slices.Repeat([]api.Pred{every()}, 15)...), and(slices.Repeat([]api.Pred{num("a", 2, -7)}, 15)...)) {
		read(p)
	}
	if back != 7 {
		t.Errorf("%d of 7 were read back", back)
	}
}

// P19.1: blanks between tokens are nothing, but places and sizes are told with them.
func TestBlanks(t *testing.T) {
	s := source(7)
	for range 2000 {
		text := query.Text(s.query())
		if len(text) > 150 {
			continue
		}
		tokens, _, _ := word.All(text)
		near, _, err := parse.Query(text)
		wide := one(&s, "", " ", "\n")
		for _, k := range tokens[:len(tokens)-1] {
			wide += written(k) + one(&s, " ", "\t", "\n", " \n", "\t ")
		}
		if len(wide) > api.MaxQuery {
			continue
		}
		if far, n, fault := parse.Query(wide); !sameQuery(far, near) || fault != err || err == api.OK && n != len(wide) {
			t.Fatalf("Query(%q) = %+v, %d, %d", wide, far, n, fault)
		}
	}
}

// Rules 3 and 4: what is answered shares no list with another answer, nor within itself.
func TestSharesNothing(t *testing.T) {
	const text = "select count(*), sum(a) from t where not (a = 1 or b is null and not c like 'x') group by b"
	const other = "select a, b from t where a = 1 and (a = 1 or b is null)"
	for _, s := range []string{text, other} {
		first, _, _ := parse.Query(s)
		second, _, _ := parse.Query(s)
		kept := fmt.Sprintf("%#v", second)
		spoil(&first.Where)
		clear(first.Cols[:cap(first.Cols)])
		clear(first.Aggs[:cap(first.Aggs)])
		third, _, _ := parse.Query(s)
		if fmt.Sprintf("%#v", second) != kept || fmt.Sprintf("%#v", third) != kept {
			t.Errorf("what is answered to %q shares memory", s)
		}
	}
	p, _, _ := parse.Where("(a = 1 or b = 2) and (a = 1 or b = 2)")
	spoil(&p.Kids[0])
	if want := or(num("a", 1, 1), num("b", 1, 2)); len(p.Kids) != 2 || !samePred(p.Kids[1], want) {
		t.Errorf("two lists of one answer share memory")
	}
}

// spoil turns all that p has within it.
func spoil(p *api.Pred) {
	kids := p.Kids[:cap(p.Kids)]
	for i := range kids {
		spoil(&kids[i])
	}
	*p = api.Pred{Op: 99, Col: "spoilt"}
	clear(kids)
}

// P19.2, rule 1: every call ends, at whatever bytes.
func TestAnyBytes(t *testing.T) {
	s := source(11)
	for range 20000 {
		b := make([]byte, s.below(30))
		for i := range b {
			b[i] = byte(s.below(256))
		}
		queryRight(t, string(b))
		predRight(t, string(b))
		queryRight(t, "select * from t where "+string(b))
	}
	for first := range 256 {
		b := string([]byte{byte(first)})
		for _, text := range []string{b, b + b, "a" + b + "1", "select" + b + "from t", "select * from t" + b, "a = '" + b + "'"} {
			queryRight(t, text)
			predRight(t, text)
		}
	}
	for _, piece := range allWords {
		great := strings.Repeat(piece+" ", 400/(len(piece)+1))
		queryRight(t, great)
		predRight(t, great)
		queryRight(t, strings.Repeat(piece+" ", 1<<16))
	}
}
