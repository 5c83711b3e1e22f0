package glob_test

import (
	"slices"
	"strings"
	"testing"
	"unicode/utf8"

	"firkin/glob"
)

// far is a byte that begins no rune, and what a range over a text tells of it.
const (
	far  = "\xff"
	none = '\uFFFD'
)

// runesByRule is the runes of s, one by one.
func runesByRule(s string) []rune {
	var l []rune
	for s != "" {
		r, size := utf8.DecodeRuneInString(s)
		l = append(l, r)
		s = s[size:]
	}
	return l
}

// foldByRule is the runes of s, of which A to Z are a to z.
func foldByRule(s string) []rune {
	l := runesByRule(s)
	for i, r := range l {
		if at := strings.IndexRune("ABCDEFGHIJKLMNOPQRSTUVWXYZ", r); at >= 0 && r != none {
			l[i] = rune("abcdefghijklmnopqrstuvwxyz"[at])
		}
	}
	return l
}

// parts is whether the text can be parted as the pattern says it, told from the pattern's end: may is where in the text what was gone through may begin.
func parts(pattern, text []rune) bool {
	may := make([]bool, len(text)+1)
	may[len(text)] = true
	for _, p := range slices.Backward(pattern) {
		next := make([]bool, len(text)+1)
		for i := range next {
			switch p {
			case '%':
				next[i] = slices.Contains(may[i:], true)
			case '_':
				next[i] = i < len(text) && may[i+1]
			default:
				next[i] = i < len(text) && text[i] == p && may[i+1]
			}
		}
		may = next
	}
	return may[0]
}

// texts is all texts of so many of the letters at most.
func texts(most int, letters ...string) []string {
	all := []string{""}
	last := all
	for range most {
		var next []string
		for _, s := range last {
			for _, letter := range letters {
				next = append(next, s+letter)
			}
		}
		all, last = append(all, next...), next
	}
	return all
}

// source draws numbers by a rule.
type source uint32

// below is the next number, below n.
func (s *source) below(n int) int {
	*s = *s*1664525 + 1013904223
	return int(*s>>8) % n
}

// text is so many of the letters, drawn.
func (s *source) text(size int, letters ...string) string {
	var b strings.Builder
	for range size {
		b.WriteString(letters[s.below(len(letters))])
	}
	return b.String()
}

// wantMatch is whether Match of the two is what is wanted.
func wantMatch(t *testing.T, pattern, s string, want bool) {
	t.Helper()
	if got := glob.Match(pattern, s); got != want {
		t.Errorf("Match(%q, %q) = %v, want %v", pattern, s, got, want)
	}
}

// matchByRule is whether Match of the two is what the chapter says.
func matchByRule(t *testing.T, pattern, s string) {
	t.Helper()
	want := parts(foldByRule(pattern), foldByRule(s))
	if got := glob.Match(pattern, s); got != want {
		t.Fatalf("Match(%q, %q) = %v, want %v", pattern, s, got, want)
	}
}

func TestFold(t *testing.T) { // P15.1
	for _, c := range []struct {
		s    string
		want []rune
	}{
		{"", nil},
		{"a", []rune{'a'}},
		{"A", []rune{'a'}},
		{"AZaz", []rune{'a', 'z', 'a', 'z'}},
		{"@[`{", []rune{'@', '[', '`', '{'}},
		{"%_\\'09 \x00\x7f", []rune{'%', '_', '\\', '\'', '0', '9', ' ', 0, 0x7f}},
		{"Ab ÄÖ", []rune{'a', 'b', ' ', 'Ä', 'Ö'}},
		{"äßſ", []rune{'ä', 'ß', 'ſ'}},
		{"\u212a\u0130\u0131", []rune{0x212a, 0x130, 0x131}}, // folds of K and I elsewhere
		{"\uff21\u0391\u0410", []rune{0xff21, 0x391, 0x410}}, // letters that look like A
		{"e\u0301", []rune{'e', 0x301}},
		{"日本\U0001f600\U0010ffff", []rune{'日', '本', 0x1f600, 0x10ffff}},
		{"\ufffd", []rune{none}},
		{"\x80", []rune{none}},
		{far, []rune{none}},
		{"a\xffB\xfe", []rune{'a', none, 'b', none}},
		{"\xc3", []rune{none}},
		{"\xc3A", []rune{none, 'a'}},
		{"\xe2\x82", []rune{none, none}},
		{"\xe2\x82Z", []rune{none, none, 'z'}},
		{"\xf0\x9f\x98", []rune{none, none, none}},
		{"\xc1\x81", []rune{none, none}},                     // A in two bytes
		{"\xc0\x80", []rune{none, none}},                     // 0 in two bytes
		{"\xed\xa0\x80", []rune{none, none, none}},           // a half of a pair
		{"\xf4\x90\x80\x80", slices.Repeat([]rune{none}, 4)}, // above the last rune
	} {
		if got := glob.Fold(c.s); !slices.Equal(got, c.want) {
			t.Errorf("Fold(%q) = %x, want %x", c.s, got, c.want)
		}
	}
}

func TestFoldOfEachRune(t *testing.T) { // P15.1
	for r := range rune(utf8.MaxRune + 1) {
		want := r
		switch {
		case !utf8.ValidRune(r):
			want = none
		case r >= 65 && r <= 90:
			want = r + 32
		}
		if got := glob.Fold(string(r)); !slices.Equal(got, []rune{want}) {
			t.Fatalf("Fold of the rune %x = %x", r, got)
		}
	}
}

func TestFoldByRule(t *testing.T) { // P15.1
	for first := range 256 {
		for second := range 256 {
			for _, s := range []string{
				string([]byte{byte(first), byte(second)}),
				string([]byte{'Q', byte(first), byte(second), 'q'}),
				string([]byte{0xe2, byte(first), byte(second), 'W'}),
				string([]byte{0xf0, byte(first), byte(second), 0x80, 'w'}),
			} {
				if got := glob.Fold(s); !slices.Equal(got, foldByRule(s)) {
					t.Fatalf("Fold(%q) = %x, want %x", s, got, foldByRule(s))
				}
			}
		}
	}
	long := strings.Repeat("aZä\xff日", 50000)
	if got := glob.Fold(long); !slices.Equal(got, slices.Repeat([]rune{'a', 'z', 'ä', none, '日'}, 50000)) {
		t.Errorf("Fold of %d bytes is something else, of %d runes", len(long), len(got))
	}
}

func TestMatch(t *testing.T) { // P15.1
	for _, c := range []struct {
		pattern, s string
		want       bool
	}{
		{"a%_", "äb", false}, // the chapter's example
		{"a%_", "Axy", true}, // and its other one
		{"", "", true},
		{"", "a", false},
		{"a", "", false},
		{"a", "a", true},
		{"a", "A", true},
		{"A", "a", true},
		{"a", "b", false},
		{"a", "aa", false},
		{"aa", "a", false},
		{"_", "", false},
		{"_", "a", true},
		{"_", "aa", false},
		{"__", "a", false},
		{"__", "aa", true},
		{"%", "", true},
		{"%", "a", true},
		{"%%", "", true},
		{"%%%", "abc", true},
		{"%_", "", false},
		{"%_", "a", true},
		{"_%", "", false},
		{"_%", "abc", true},
		{"_%_", "a", false},
		{"_%_", "ab", true},
		{"%_%_%", "a", false},
		{"%_%_%", "ab", true},
		{"a%", "abc", true},
		{"a%", "ba", false},
		{"%a", "bca", true},
		{"%a", "ab", false},
		{"%a%", "bab", true},
		{"%a%", "bbb", false},
		{"a%a", "a", false},
		{"a%a", "aa", true},
		{"a%a", "aba", true},
		{"ab%ba", "aba", false},
		{"ab%ba", "abba", true},
		{"%ab", "aab", true},
		{"%ab", "abaab", true},
		{"%aab%", "aaaab", true},
		{"a%b%c", "axbxbxc", true},
		{"a%b%c", "axcxb", false},
		{"a%b_c", "abbxc", true},
		{"%b_d%", "abcbcd", true},
		{"%x%y", "yx", false},
		{"%abab%", "abaabab", true},
		{"mississippi", "MISSISSIPPI", true},
		{"m%iss%ip%i", "mississippi", true},
		{"m%issip%iss%", "mississippi", false},
	} {
		wantMatch(t, c.pattern, c.s, c.want)
	}
}

func TestMatchRuneByRune(t *testing.T) { // P15.1
	for _, c := range []struct {
		pattern, s string
		want       bool
	}{
		{"_", "ä", true},
		{"__", "ä", false},
		{"_", "日", true},
		{"_", "\U0001f600", true},
		{"_", "e\u0301", false},
		{"__", "e\u0301", true},
		{"ä", "Ä", false},
		{"Ä", "Ä", true},
		{"k", "\u212a", false},
		{"s", "ſ", false},
		{"i", "\u0130", false},
		{"ss", "ß", false},
		{"@", "`", false},
		{"[", "{", false},
		{"{", "[", false},
		{"`", "@", false},
		{"%ä", "\xa4", false},     // ä's last byte
		{"%\xa4", "ä", false},     // and the other way
		{"\xc3%", "ä", false},     // ä's first byte
		{"\xc3%\xa4", "ä", false}, // parted, they are two
		{"\xc3%\xa4", "\xc3|\xa4", true},
		{"\xc3_", "\xc3A", true},
		{far, far, true},
		{far, "\xfe", true},
		{far, "\ufffd", true},
		{"\ufffd", far, true},
		{"\ufffd", "\xfe", true},
		{far, "ÿ", false}, // the rune of that number
		{far, "", false},
		{"_", far, true},
		{"_", "\xff\xff", false},
		{"__", "\xc3\xff", true},
		{"___", "\xed\xa0\x80", true},
		{"\xff\xff", "\xe2\x82", true},
		{"\xff", "\xe2\x82", false},
		{"ĥ", "abc", false}, // its number ends as that of %
		{"ş", "a", false},   // its number ends as that of _
		{"\uff05", "abc", false},
		{"\uff3f", "a", false},
		{"a", "š", false}, // its number ends as that of a
		{"a", "\u0141", false},
		{"\x00", "\x00", true},
		{"\x00", "", false},
		{"_", "\x00", true},
		{"_", "\n", true},
		{"%", "\n\r\x00", true},
	} {
		wantMatch(t, c.pattern, c.s, c.want)
	}
}

func TestNothingElseIsSaid(t *testing.T) { // P15.1
	for r := range rune(0x300) {
		for _, other := range []rune{'a', 'A', 'z', 'Z', '%', '_', 'Q', none, r} {
			want := r == '%' || r == '_' || slices.Equal(foldByRule(string(r)), foldByRule(string(other)))
			wantMatch(t, string(r), string(other), want)
		}
		wantMatch(t, string(r), "", r == '%')
		wantMatch(t, string(r), "xyz", r == '%')
		wantMatch(t, "x"+string(r)+"z", "xyz", r == '%' || r == '_' || r == 'y' || r == 'Y')
	}
	for _, c := range []struct {
		pattern, s string
		want       bool
	}{
		{"%", "%", true},
		{"_", "%", true},
		{"%", "_", true},
		{"_", "_", true},
		{"a", "%", false},
		{"a", "_", false},
		{"a%", "%a", false},
		{"\\%", "%", false}, // nothing takes what % says from it
		{"\\%", "\\", true},
		{"\\_", "_", false},
		{"\\_", "\\x", true},
		{"%%", "a", true},
		{"__", "_", false},
		{"a*", "abc", false},
		{"a?", "ab", false},
		{"a.", "ab", false},
		{"[ab]", "a", false},
		{"a+", "aa", false},
		{"^a$", "a", false},
	} {
		wantMatch(t, c.pattern, c.s, c.want)
	}
}

func TestMatchByRule(t *testing.T) { // P15.1
	patterns := texts(5, "a", "B", "%", "_")
	for _, s := range texts(6, "A", "b") {
		for _, pattern := range patterns {
			matchByRule(t, pattern, s)
		}
	}
	patterns = texts(4, "a", "%", "_", "ä", far)
	for _, s := range texts(3, "A", "%", "_", "ä", "\xc3", "\ufffd") {
		for _, pattern := range patterns {
			matchByRule(t, pattern, s)
		}
	}
	patterns = texts(7, "a", "%", "b")
	for _, s := range texts(7, "a", "b") {
		for _, pattern := range patterns {
			matchByRule(t, pattern, s)
		}
	}
}

func TestMatchOfDrawn(t *testing.T) { // P15.1
	draw := source(15)
	matched := 0
	for range 60000 {
		pattern := draw.text(draw.below(14), "a", "A", "b", "%", "%", "_", "ä", far)
		s := draw.text(draw.below(40), "a", "A", "b", "B", "ä", "\xc3", "|")
		matchByRule(t, pattern, s)
		if glob.Match(pattern, s) {
			matched++
		}
	}
	if matched < 1000 {
		t.Errorf("just %d of what was drawn match", matched)
	}
}

func TestMatchOfLong(t *testing.T) { // P15.1, rule 1
	a := strings.Repeat("a", 3000)
	wantMatch(t, strings.Repeat("a%", 1000)+"b", a, false)
	wantMatch(t, strings.Repeat("a%", 1000)+"b", a+"b", true)
	wantMatch(t, strings.Repeat("%a", 3000), a, true)
	wantMatch(t, strings.Repeat("%a", 3001), a, false)
	wantMatch(t, strings.Repeat("%_", 3000), a, true)
	wantMatch(t, strings.Repeat("_%", 3001), a, false)
	wantMatch(t, strings.Repeat("%", 300000), a, true)
	wantMatch(t, strings.Repeat("%", 300000), "", true)
	wantMatch(t, strings.Repeat("%", 300000)+"b", a, false)
	wantMatch(t, "%"+strings.Repeat("a", 1500)+"b%", a, false)
	wantMatch(t, "%"+strings.Repeat("a", 1500)+"b", a+"b", true)
	wantMatch(t, strings.Repeat("_", 3000), a, true)
	wantMatch(t, strings.Repeat("_", 2999), a, false)
	wantMatch(t, "", strings.Repeat(a, 300), false)
	wantMatch(t, strings.Repeat(a, 300), strings.Repeat(strings.ToUpper(a), 300), true)
	wantMatch(t, strings.Repeat(a, 300), strings.Repeat(a, 300)+"a", false)
	wantMatch(t, "%b", strings.Repeat(a, 300), false)
	wantMatch(t, "a%a", strings.Repeat(a, 300), true)
}

func TestPrefix(t *testing.T) { // P15.2
	for _, c := range []struct {
		pattern, want string
		none          bool
	}{
		{"", "", true},
		{"a", "a", true},
		{"abc", "abc", true},
		{"AbC", "AbC", true},
		{"%", "", false},
		{"_", "", false},
		{"%a", "", false},
		{"_a", "", false},
		{"a%", "a", false},
		{"a_", "a", false},
		{"Ab%cd", "Ab", false},
		{"Ab_cd", "Ab", false},
		{"a%b_c", "a", false},
		{"a_b%c", "a", false},
		{"a%b%c", "a", false},
		{"ÄB日%", "ÄB日", false},
		{"ÄB日", "ÄB日", true},
		{"\U0010ffff_", "\U0010ffff", false},
		{"a\\%b", "a\\", false},
		{"a*?.[b]", "a*?.[b]", true},
		{"ĥş\uff05\uff3f", "ĥş\uff05\uff3f", true},
		{"\x00%", "\x00", false},
		{far, "\ufffd", true},
		{"\ufffd", "\ufffd", true},
		{"a\xffB%\xff", "a\ufffdB", false},
		{"a\xff\xfe_", "a\ufffd\ufffd", false},
		{"\xc3%\xa4", "\ufffd", false},
		{"\xe2\x82", "\ufffd\ufffd", true},
		{"\xe2\x82A", "\ufffd\ufffdA", true},
		{"\xed\xa0\x80%", "\ufffd\ufffd\ufffd", false},
		{"\xf4\x90\x80\x80", "\ufffd\ufffd\ufffd\ufffd", true},
	} {
		if got, none := glob.Prefix(c.pattern); got != c.want || none != c.none {
			t.Errorf("Prefix(%q) = %q, %v, want %q, %v", c.pattern, got, none, c.want, c.none)
		}
	}
}

// prefixByRule is whether Prefix of the pattern is what the chapter says.
func prefixByRule(t *testing.T, pattern string) {
	t.Helper()
	ahead, _, _ := strings.Cut(strings.ReplaceAll(pattern, "_", "%"), "%")
	want := string(runesByRule(ahead))
	none := !strings.ContainsAny(pattern, "%_")
	if got, is := glob.Prefix(pattern); got != want || is != none {
		t.Fatalf("Prefix(%q) = %q, %v, want %q, %v", pattern, got, is, want, none)
	}
}

func TestPrefixByRule(t *testing.T) { // P15.2
	for _, pattern := range texts(6, "a", "B", "%", "_", far) {
		prefixByRule(t, pattern)
	}
	for first := range 256 {
		for second := range 256 {
			prefixByRule(t, string([]byte{byte(first), byte(second)}))
			prefixByRule(t, string([]byte{0xe2, byte(first), byte(second), 'Z', '_'}))
		}
	}
	for r := range rune(utf8.MaxRune + 1) {
		prefixByRule(t, string(r))
	}
	long := strings.Repeat("aZä日", 50000)
	for _, tail := range []string{"", "%", "_", "%x", far} {
		prefixByRule(t, long+tail)
	}
}

func TestPrefixIsAhead(t *testing.T) { // P15.1, P15.2
	for _, pattern := range texts(4, "a", "B", "%", "_", "ä") {
		prefix, none := glob.Prefix(pattern)
		for _, s := range texts(4, "A", "b", "ä") {
			if !glob.Match(pattern, s) {
				continue
			}
			runes, ahead := glob.Fold(s), glob.Fold(prefix)
			if len(ahead) > len(runes) || !slices.Equal(runes[:len(ahead)], ahead) || none && len(ahead) != len(runes) {
				t.Fatalf("%q matches %q, which does not begin with Prefix, %q, %v", pattern, s, prefix, none)
			}
		}
	}
}

func TestPatternOfItselfAlone(t *testing.T) { // P15.3
	all := texts(4, "a", "A", "b", "ä", far)
	for _, pattern := range all {
		for _, s := range all {
			wantMatch(t, pattern, s, slices.Equal(foldByRule(pattern), foldByRule(s)))
		}
	}
}

func TestManyMatchesAll(t *testing.T) { // P15.3
	for _, s := range texts(6, "a", "%", "_", "ä", far) {
		wantMatch(t, "%", s, true)
	}
	draw := source(3)
	for range 2000 {
		b := make([]byte, draw.below(60))
		for i := range b {
			b[i] = byte(draw.below(256))
		}
		wantMatch(t, "%", string(b), true)
		wantMatch(t, "%%", string(b), true)
	}
}

func TestPutTogether(t *testing.T) { // P15.3
	patterns := texts(3, "a", "%", "_", "\xc3")
	all := texts(3, "A", "b", "\xc3")
	for _, first := range patterns {
		for _, s := range all {
			if !glob.Match(first, s) {
				continue
			}
			for _, other := range patterns {
				for _, behind := range all {
					if glob.Match(other, behind) && !glob.Match(first+"%"+other, s+"|"+behind) {
						t.Fatalf("%q matches %q, %q %q, but not put together", first, s, other, behind)
					}
				}
			}
		}
	}
}

func TestFoldsShareNothing(t *testing.T) { // rules 3 and 4
	s := "AbÄ\xff"
	first, other := glob.Fold(s), glob.Fold(s)
	clear(first[:cap(first)])
	if !slices.Equal(other, foldByRule(s)) || !slices.Equal(glob.Fold(s), other) {
		t.Error("what Fold answers shares memory")
	}
	prefix, _ := glob.Prefix("ab\xff_")
	again, _ := glob.Prefix("ab\xff_")
	if prefix != again || glob.Match("a%", "ab") != glob.Match("a%", "ab") {
		t.Error("the same call answers something else")
	}
}
