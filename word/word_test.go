package word_test

import (
	"math"
	"slices"
	"strconv"
	"strings"
	"testing"
	"unicode/utf8"

	"firkin/api"
	"firkin/word"
)

// The tokens, at a place.
func name(at int, s string) word.Token       { return word.Token{Kind: 1, S: s, At: at} }
func number(at int, n int64) word.Token      { return word.Token{Kind: 2, N: n, At: at} }
func textual(at int, s string) word.Token    { return word.Token{Kind: 3, S: s, At: at} }
func mark(at int, s string) word.Token       { return word.Token{Kind: 4, S: s, At: at} }
func end(at int) word.Token                  { return word.Token{At: at} }
func list(tokens ...word.Token) []word.Token { return tokens }

// wantAll is whether the tokens of s are those, with an end behind them.
func wantAll(t *testing.T, s string, want ...word.Token) {
	t.Helper()
	got, n, err := word.All(s)
	want = append(slices.Clone(want), end(len(s)))
	if !slices.Equal(got, want) || n != len(s) || err != api.OK {
		t.Errorf("All(%q) = %v, %d, %d, want %v, %d, 0", s, got, n, err, want, len(s))
	}
}

// wantFault is whether in s no token begins at the place.
func wantFault(t *testing.T, s string, at int) {
	t.Helper()
	if got, n, err := word.All(s); len(got) != 0 || n != at || err != api.ErrText {
		t.Errorf("All(%q) = %v, %d, %d, want none, %d, 2", s, got, n, err, at)
	}
}

// beginByRule is the longest token that s begins with, told by trying all its fronts, and of how many bytes it is.
func beginByRule(s string) (word.Token, int) {
	var token word.Token
	size := 0
	for i := 1; i <= len(s); i++ {
		if found, ok := wholeByRule(s[:i], s[i:]); ok {
			token, size = found, i
		}
	}
	return token, size
}

// wholeByRule is the token that s is, with the text behind it, if it is one.
func wholeByRule(s, behind string) (word.Token, bool) {
	switch {
	case slices.Contains([]string{",", "(", ")", "*", "=", "<>", "<=", ">=", "<", ">"}, s):
		return mark(0, s), true
	case s[0] >= 'a' && s[0] <= 'z':
		return name(0, s), strings.Trim(s, "abcdefghijklmnopqrstuvwxyz0123456789_") == ""
	case s[0] == '\'':
		return textByRule(s, behind)
	}
	n, err := strconv.ParseInt(s, 10, 64)
	partOfMore := behind != "" && behind[0] >= '0' && behind[0] <= '9'
	return number(0, n), err == nil && strconv.FormatInt(n, 10) == s && !partOfMore
}

// textByRule is the text that s, which begins with a quote, is all of, if it is one.
func textByRule(s, behind string) (word.Token, bool) {
	if len(s) < 2 || s[len(s)-1] != '\'' || strings.HasPrefix(behind, "'") {
		return word.Token{}, false
	}
	inside := s[1 : len(s)-1]
	for _, piece := range strings.Split(inside, "''") {
		if strings.Contains(piece, "'") {
			return word.Token{}, false
		}
	}
	return textual(0, strings.Join(strings.Split(inside, "''"), "'")), true
}

// allByRule is what the chapter says of s.
func allByRule(s string) ([]word.Token, int, api.Errno) {
	if len(s) > 400 {
		return nil, 0, 3
	}
	var tokens []word.Token
	for at := 0; at < len(s); {
		if strings.IndexByte(" \t\n", s[at]) >= 0 {
			at++
			continue
		}
		token, size := beginByRule(s[at:])
		if size == 0 {
			return nil, at, 2
		}
		token.At = at
		tokens = append(tokens, token)
		at += size
	}
	return append(tokens, end(len(s))), len(s), 0
}

// byRule is whether All of s is what the chapter says.
func byRule(t *testing.T, s string) bool {
	t.Helper()
	want, place, fault := allByRule(s)
	got, n, err := word.All(s)
	if !slices.Equal(got, want) || n != place || err != fault {
		t.Fatalf("All(%q) = %v, %d, %d, want %v, %d, %d", s, got, n, err, want, place, fault)
	}
	return err == api.OK
}

// texts is all texts of so many of the letters at most.
func texts(most int, letters ...string) []string {
	all := []string{""}
	last := all
	for range most {
		var next []string
		for _, s := range last {
			for _, letter := range letters {
				next = append(next, s+letter)
			}
		}
		all, last = append(all, next...), next
	}
	return all
}

// source draws numbers by a rule.
type source uint32

// below is the next number, below n.
func (s *source) below(n int) int {
	*s = *s*1664525 + 1013904223
	return int(*s>>8) % n
}

// long is the next number of 64 bits, of any size.
func (s *source) long() int64 {
	var n uint64
	for range 4 {
		n = n<<16 | uint64(s.below(1<<16))
	}
	return int64(n) >> s.below(64)
}

// text is so many of the letters, drawn.
func (s *source) text(size int, letters ...string) string {
	var b strings.Builder
	for range size {
		b.WriteString(letters[s.below(len(letters))])
	}
	return b.String()
}

func TestKinds(t *testing.T) { // P16.1
	kinds := []int{word.End, word.Name, word.Number, word.Text, word.Mark}
	if !slices.Equal(kinds, []int{0, 1, 2, 3, 4}) {
		t.Error("the kinds are", kinds)
	}
}

func TestExample(t *testing.T) { // P16.1, P16.2
	wantAll(t, "a<=-5", name(0, "a"), mark(1, "<="), number(3, -5))
}

func TestQuery(t *testing.T) { // P16.1, P16.2
	wantAll(t, "select a, count(*) from t where b <> 'it''s' and not c<-7 or d>=0",
		name(0, "select"), name(7, "a"), mark(8, ","), name(10, "count"), mark(15, "("), mark(16, "*"), mark(17, ")"),
		name(19, "from"), name(24, "t"), name(26, "where"), name(32, "b"), mark(34, "<>"), textual(37, "it's"),
		name(45, "and"), name(49, "not"), name(53, "c"), mark(54, "<"), number(55, -7), name(58, "or"), name(61, "d"), mark(62, ">="), number(64, 0))
}

func TestBlanks(t *testing.T) { // P16.1
	wantAll(t, "")
	wantAll(t, " ")
	wantAll(t, "\t")
	wantAll(t, "\n")
	wantAll(t, " \t\n\n\t ")
	wantAll(t, "\n\ta b\n ", name(2, "a"), name(4, "b"))
	wantAll(t, strings.Repeat(" ", 400))
	for b := range 256 {
		s := string([]byte{byte(b)})
		_, n, err := word.All(s)
		blank := b == ' ' || b == '\t' || b == '\n'
		if got, _, _ := word.All(s + s); blank && (len(got) != 1 || err != api.OK) {
			t.Errorf("All(%q) is not an end alone", s)
		}
		if strings.Contains("\r\v\f\x00\x7f\x85\xa0", s) && (n != 0 || err != api.ErrText) {
			t.Errorf("All(%q) = %d, %d", s, n, err)
		}
	}
	wantFault(t, "a\u00a0b", 1) // blanks elsewhere
	wantFault(t, "a\u2003b", 1)
	wantFault(t, "a\u0085b", 1)
	wantFault(t, " \r\n", 1)
}

func TestNames(t *testing.T) { // P16.1
	for _, s := range []string{"a", "z", "az", "a0", "z9", "a_", "a__", "_", "a_b", "select", "null", "true", "a0123456789_z", strings.Repeat("ab_0", 100)} {
		if s != "_" {
			wantAll(t, s, name(0, s))
		}
	}
	wantAll(t, "a b", name(0, "a"), name(2, "b"))
	wantAll(t, "1a", number(0, 1), name(1, "a"))
	wantAll(t, "0a_1", number(0, 0), name(1, "a_1"))
	wantAll(t, "a-1", name(0, "a"), number(1, -1))
	wantAll(t, "a'b'c", name(0, "a"), textual(1, "b"), name(4, "c"))
	wantAll(t, "a=b", name(0, "a"), mark(1, "="), name(2, "b"))
	for s, at := range map[string]int{"_": 0, "_a": 0, "1_": 1, "a _": 2, "A": 0, "Z": 0, "aB": 1, "aä": 1, "äa": 0, "a`": 1, "a{": 1, "a@": 1, "a[": 1, "a/": 1, "a:": 1, "a.b": 1, "a$": 1, "a\x00": 1, "a\xff": 1, "\u0161": 0, "a\u0161": 1, "a\u0131": 1, "\uff41": 0} {
		wantFault(t, s, at)
	}
}

func TestNumbers(t *testing.T) { // P16.1
	for s, n := range map[string]int64{
		"0": 0, "1": 1, "9": 9, "10": 10, "-1": -1, "-9": -9, "-10": -10, "1234567890": 1234567890,
		"2147483648": 1 << 31, "-2147483649": -1<<31 - 1, "4294967296": 1 << 32,
		"9223372036854775807": math.MaxInt64, "-9223372036854775807": -math.MaxInt64, "-9223372036854775808": math.MinInt64,
	} {
		wantAll(t, s, number(0, n))
		wantAll(t, " "+s+" ", number(1, n))
	}
	wantAll(t, "1 2", number(0, 1), number(2, 2))
	wantAll(t, "1-2", number(0, 1), number(1, -2))
	wantAll(t, "0-1", number(0, 0), number(1, -1))
	wantAll(t, "-1-2-3", number(0, -1), number(2, -2), number(4, -3))
	wantAll(t, "1'2'3", number(0, 1), textual(1, "2"), number(4, 3))
	wantAll(t, "1,2", number(0, 1), mark(1, ","), number(2, 2))
}

func TestDigitsOfNoNumber(t *testing.T) { // P16.1, P16.2
	for _, s := range []string{
		"00", "01", "007", "0000", "-0", "-00", "-01", "-", "--1", "- 1", "-a", "-'1'", "-,", "+1", "+", ".5",
		"9223372036854775808", "-9223372036854775809", "10000000000000000000", "18446744073709551615", "18446744073709551616", "18446744073709551617",
		"99999999999999999999", "-99999999999999999999", strings.Repeat("1", 400), "-" + strings.Repeat("9", 399), strings.Repeat("0", 300) + "1",
	} {
		wantFault(t, s, 0)
		if len(s) < 300 {
			wantFault(t, "a <> "+s, 5)
			wantFault(t, s+" a 'b", 0)
		}
	}
	wantFault(t, "0-0", 1)
	wantFault(t, "1.5", 1)
	wantFault(t, "1-", 1)
	wantFault(t, "1 -", 2)
	wantFault(t, "1-01", 1)
	wantFault(t, "1_000", 1)
	wantFault(t, "1\u0660", 1) // digits elsewhere
	wantFault(t, "\u0661", 0)
	wantFault(t, "\uff11", 0)
	wantFault(t, "\u2212\u0031", 0)
}

func TestTexts(t *testing.T) { // P16.1
	for s, want := range map[string]string{
		"''": "", "'a'": "a", "''''": "'", "''''''": "''", "'a''b'": "a'b", "'''a'": "'a", "'a'''": "a'", "' '": " ", "'\t\n\r\x00'": "\t\n\r\x00",
		"'A,(*)<>=-5\"\\%_'": "A,(*)<>=-5\"\\%_", "'äÖ日\U0001f600'": "äÖ日\U0001f600", "'\ufffd'": "\ufffd",
		"'\xff'": "\xff", "'\xc3'": "\xc3", "'\xe2\x82'": "\xe2\x82", "'\xe2\x82''\xac'": "\xe2\x82'\xac", "'\xed\xa0\x80'": "\xed\xa0\x80", "'\xf0\x9f'": "\xf0\x9f",
		"'\u0127'": "\u0127", "'\u0227'": "\u0227", // their numbers end as that of a quote
		"'\\'": "\\", "'\"'": "\"", "'--'": "--",
	} {
		wantAll(t, s, textual(0, want))
		wantAll(t, "a"+s+" 1", name(0, "a"), textual(1, want), number(len(s)+2, 1))
		wantAll(t, s+"<", textual(0, want), mark(len(s), "<"))
	}
	wantAll(t, "'a' 'b'", textual(0, "a"), textual(4, "b"))
	wantAll(t, "'a'\n'b'", textual(0, "a"), textual(4, "b"))
	wantAll(t, "'' ''", textual(0, ""), textual(3, ""))
	wantAll(t, "'a',''", textual(0, "a"), mark(3, ","), textual(4, ""))
	wantAll(t, "'"+strings.Repeat("x", 398)+"'", textual(0, strings.Repeat("x", 398)))
	wantAll(t, strings.Repeat("'", 400), textual(0, strings.Repeat("'", 199)))
	wantAll(t, "'日本'a'ö'", textual(0, "日本"), name(8, "a"), textual(9, "ö"))
}

func TestTextsWithoutEnd(t *testing.T) { // P16.1, P16.2
	for _, s := range []string{"'", "'a", "'''", "'''''", "'a''", "'a''b", "' ", "'a''b''", "'a, b = 1", "'ä", "'\xff", "'\u2019", "'a\"", strings.Repeat("'", 399), "'" + strings.Repeat("x", 399)} {
		wantFault(t, s, 0)
		if len(s) < 300 {
			wantFault(t, "a = "+s, 4)
			wantFault(t, "'b' "+s, 4)
		}
	}
	wantFault(t, "'a'b'", 4)
	wantFault(t, "'a' '", 4)
	wantFault(t, "''a'", 3)
	wantFault(t, "\"a\"", 0)
	wantFault(t, "`a`", 0)
	wantFault(t, "\u2019a\u2019", 0)
	wantFault(t, "\u0127a'", 0)
}

func TestMarks(t *testing.T) { // P16.1
	for _, m := range []string{",", "(", ")", "*", "=", "<>", "<=", ">=", "<", ">"} {
		wantAll(t, m, mark(0, m))
		wantAll(t, "a"+m+"b", name(0, "a"), mark(1, m), name(1+len(m), "b"))
		wantAll(t, m+" "+m, mark(0, m), mark(len(m)+1, m))
	}
	wantAll(t, "<>=", mark(0, "<>"), mark(2, "="))
	wantAll(t, "<<>", mark(0, "<"), mark(1, "<>"))
	wantAll(t, "<<=", mark(0, "<"), mark(1, "<="))
	wantAll(t, "><", mark(0, ">"), mark(1, "<"))
	wantAll(t, ">>=", mark(0, ">"), mark(1, ">="))
	wantAll(t, "=<", mark(0, "="), mark(1, "<"))
	wantAll(t, "=>", mark(0, "="), mark(1, ">"))
	wantAll(t, "==", mark(0, "="), mark(1, "="))
	wantAll(t, "<==", mark(0, "<="), mark(2, "="))
	wantAll(t, ">==", mark(0, ">="), mark(2, "="))
	wantAll(t, "<>>", mark(0, "<>"), mark(2, ">"))
	wantAll(t, "< >", mark(0, "<"), mark(2, ">"))
	wantAll(t, "< =", mark(0, "<"), mark(2, "="))
	wantAll(t, "((**),,", mark(0, "("), mark(1, "("), mark(2, "*"), mark(3, "*"), mark(4, ")"), mark(5, ","), mark(6, ","))
	for _, s := range []string{"!=", "!", ";", "+", "/", "%", ".", ":", "[", "]", "{", "}", "|", "&", "^", "~", "#", "?", "\\", "@", "$", "\"", "\uff0c", "\u2264"} {
		wantFault(t, s, 0)
		wantFault(t, "<"+s, 1)
	}
}

func TestFaultIsTheFirst(t *testing.T) { // P16.2
	wantFault(t, "a ! b ?", 2)
	wantFault(t, "a 'ä日' A", 10)
	wantFault(t, "ab 007 ! 'c", 3)
	wantFault(t, "a\n\t é", 4)
	wantFault(t, strings.Repeat("a ", 199)+"a!", 399)
	wantFault(t, strings.Repeat("'日' ", 66)+"\xff", 396)
}

func TestTooLong(t *testing.T) { // P16.2
	for _, letter := range []string{"a", " ", "1", "'", "(", "!", "ä", "\xff"} {
		for _, size := range []int{401, 402, 1000, 100000} {
			s := strings.Repeat(letter, size)
			if got, n, err := word.All(s); len(got) != 0 || n != 0 || err != api.ErrLong {
				t.Errorf("All of %d times %q = %v, %d, %d", size, letter, got, n, err)
			}
		}
	}
	if _, n, err := word.All("'" + strings.Repeat("ä", 200) + "'"); n != 0 || err != api.ErrLong { // of 202 runes
		t.Error("a text of 402 bytes is", n, err)
	}
	wantAll(t, "'"+strings.Repeat("ä", 199)+"'", textual(0, strings.Repeat("ä", 199)))
	wantAll(t, strings.Repeat("a", 400), name(0, strings.Repeat("a", 400)))
	if got, n, err := word.All(strings.Repeat(",", 400)); len(got) != 401 || n != 400 || err != api.OK || got[400] != end(400) {
		t.Error("400 marks are", len(got), n, err)
	}
}

func TestEachRuneAlone(t *testing.T) { // P16.1, P16.2
	for r := range rune(utf8.MaxRune + 1) {
		byRule(t, string(r))
		byRule(t, "a"+string(r)+"' b")
	}
}

func TestByRule(t *testing.T) { // P16.1, P16.2
	most := 6
	if testing.Short() {
		most = 4
	}
	for _, letters := range [][]string{
		{"a", "0", "-", "'", "<", " "},
		{"1", "0", "-", "_", "b"},
		{"<", ">", "=", "*", "'"},
		{"'", "a", "ä", "\xc3", ","},
		{"'", "\n", "\xa4", "(", "9"},
	} {
		for _, s := range texts(most, letters...) {
			byRule(t, s)
		}
	}
	for first := range 256 {
		for second := range 256 {
			byRule(t, string([]byte{byte(first), byte(second)}))
			byRule(t, string([]byte{'a', byte(first), ' ', byte(second), '\''}))
			byRule(t, string([]byte{'\'', byte(first), byte(second), '\''}))
		}
	}
}

func TestOfDrawn(t *testing.T) { // P16.1, P16.2
	draw := source(16)
	good := 0
	for range 20000 {
		pieces := []string{"a", "select", "b_1", "0", "-7", "12", "9223372036854775807", "'x'", "''", "'ä'", "'\xff", "' ", ",", "(", ")", "*", "=", "<", ">", "<>", " ", " ", "\n", "\t"}
		if byRule(t, draw.text(draw.below(12), pieces...)) {
			good++
		}
	}
	if good < 2000 {
		t.Errorf("just %d of what was drawn have tokens", good)
	}
}

func TestQuote(t *testing.T) { // P16.3
	for s, want := range map[string]string{
		"": "''", "a": "'a'", "'": "''''", "''": "''''''", "a'b": "'a''b'", "'a'": "'''a'''", "it's": "'it''s'", " ": "' '", "\n": "'\n'",
		"\"": "'\"'", "\\": "'\\'", "ä日": "'ä日'", "\xff": "'\xff'", "\xc3'\xa4": "'\xc3''\xa4'", "\u2019": "'\u2019'", "\u0127": "'\u0127'", "\x00": "'\x00'",
	} {
		if got := word.Quote(s); got != want {
			t.Errorf("Quote(%q) = %q, want %q", s, got, want)
		}
	}
	long := strings.Repeat("a'", 100000)
	if got := word.Quote(long); got != "'"+strings.Repeat("a''", 100000)+"'" {
		t.Errorf("Quote of %d bytes is something else, of %d", len(long), len(got))
	}
}

func TestDigits(t *testing.T) { // P16.3
	for n, want := range map[int64]string{
		0: "0", 1: "1", -1: "-1", 9: "9", 10: "10", -10: "-10", 99: "99", 100: "100", 101: "101", 1000000: "1000000", -123456789: "-123456789",
		math.MaxInt32: "2147483647", math.MaxInt32 + 1: "2147483648", math.MinInt32: "-2147483648", math.MaxUint32: "4294967295",
		math.MaxInt64: "9223372036854775807", math.MinInt64: "-9223372036854775808", math.MinInt64 + 1: "-9223372036854775807",
	} {
		if got := word.Digits(n); got != want {
			t.Errorf("Digits(%d) = %q", n, got)
		}
	}
	for n := range int64(20000) {
		digits := ""
		for left := n; left > 0; left /= 10 {
			digits = string("0123456789"[left%10]) + digits
		}
		if n == 0 {
			digits = "0"
		}
		if got := word.Digits(n); got != digits {
			t.Fatalf("Digits(%d) = %q", n, got)
		}
		if got := word.Digits(-n); n > 0 && got != "-"+digits {
			t.Fatalf("Digits(%d) = %q", -n, got)
		}
	}
}

func TestQuotesToken(t *testing.T) { // P16.4
	for _, s := range texts(5, "'", "a", " ", "ä", "\xff") {
		q := word.Quote(s)
		wantAll(t, q, textual(0, s))
	}
	draw := source(4)
	for range 3000 {
		b := make([]byte, draw.below(100))
		for i := range b {
			b[i] = byte(draw.below(256))
		}
		wantAll(t, word.Quote(string(b)), textual(0, string(b)))
	}
	for first := range 256 {
		for second := range 256 {
			s := string([]byte{byte(first), byte(second)})
			wantAll(t, word.Quote(s), textual(0, s))
		}
	}
}

func TestDigitsToken(t *testing.T) { // P16.4
	for n := int64(-3000); n <= 3000; n++ {
		wantAll(t, word.Digits(n), number(0, n))
		wantAll(t, word.Digits(math.MinInt64+(n&4095)), number(0, math.MinInt64+(n&4095)))
		wantAll(t, word.Digits(math.MaxInt64-(n&4095)), number(0, math.MaxInt64-(n&4095)))
	}
	draw := source(5)
	for range 20000 {
		n := draw.long()
		wantAll(t, word.Digits(n), number(0, n))
	}
}

func TestBlanksBetween(t *testing.T) { // P16.4
	pieces := []string{"a", "b_1", "0", "-7", "'x'", "''", "'a b'", ",", "(", ")", "*", "=", "<", ">", "<>", "<=", ">="}
	draw := source(6)
	for range 5000 {
		var parts []string
		for range draw.below(12) {
			parts = append(parts, pieces[draw.below(len(pieces))])
		}
		near, _, _ := word.All(strings.Join(parts, " "))
		wide := draw.text(draw.below(4), " ", "\t", "\n")
		for _, part := range parts {
			wide += part + " " + draw.text(draw.below(4), " ", "\t", "\n")
		}
		far, n, err := word.All(wide)
		if len(near) != len(parts)+1 || len(far) != len(near) || n != len(wide) || err != api.OK {
			t.Fatalf("All(%q) has %d tokens, of %d parts", wide, len(far), len(parts))
		}
		for i := range far {
			far[i].At, near[i].At = 0, 0
		}
		if !slices.Equal(far, near) {
			t.Fatalf("All(%q) = %v, with fewer blanks %v", wide, far, near)
		}
	}
}

func TestTokensShareNothing(t *testing.T) { // rules 3 and 4
	s := "a<=-5 'x''y'"
	first, _, _ := word.All(s)
	other, _, _ := word.All(s)
	clear(first[:cap(first)])
	again, _, _ := word.All(s)
	want := list(name(0, "a"), mark(1, "<="), number(3, -5), textual(6, "x'y"), end(12))
	if !slices.Equal(other, want) || !slices.Equal(again, want) {
		t.Error("what All answers shares memory")
	}
}
