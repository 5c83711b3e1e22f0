package dict_test

import (
	"bytes"
	"encoding/binary"
	"math"
	"slices"
	"strings"
	"testing"

	"firkin/api"
	"firkin/dict"
	"firkin/tight"
)

// num is n as bytes.
func num(n uint64) []byte {
	return binary.AppendUvarint(nil, n)
}

// plain is l's texts as the chapter says them, one behind the other.
func plain(l ...string) []byte {
	var b []byte
	for _, t := range l {
		b = append(append(b, num(uint64(len(t)))...), t...)
	}
	return b
}

// laid is a dictionary's bytes of these unlike texts, as many as they are, and of these places, right or not.
func laid(unlike []string, places ...int64) []byte {
	return slices.Concat(num(uint64(len(unlike))), plain(unlike...), tight.Put(places))
}

// byRule is l's bytes by a dictionary as the chapter says them: a text's place is how many unlike texts are below it.
func byRule(l []string) []byte {
	unlike := slices.Compact(slices.Sorted(slices.Values(l)))
	var places []int64
	for _, t := range l {
		at, _ := slices.BinarySearch(unlike, t)
		places = append(places, int64(at))
	}
	return laid(unlike, places...)
}

// textsByRule is the first n texts that b is, what is behind them, and whether b begins with such.
func textsByRule(b []byte, n uint64, most int) ([]string, []byte, bool) {
	var l []string
	for range n {
		size, k := binary.Uvarint(b)
		if k <= 0 || k > 1 && b[k-1] == 0 || most < 0 || size > uint64(most) || size > uint64(len(b)-k) {
			return nil, nil, false
		}
		l = append(l, string(b[k:][:size]))
		b = b[k:][size:]
	}
	return l, b, true
}

// plainByRule is the n texts that b is as they are, and whether it is such.
func plainByRule(b []byte, n, most int) ([]string, bool) {
	if n < 0 || n > api.MaxList {
		return nil, false
	}
	l, rest, ok := textsByRule(b, uint64(n), most)
	if !ok || len(rest) > 0 {
		return nil, false
	}
	return l, true
}

// readByRule is the n texts that b is by a dictionary, and whether it is such: each thing that is no Put's is looked for by itself.
func readByRule(b []byte, n, most int) ([]string, bool) {
	count, k := binary.Uvarint(b)
	if n < 0 || n > api.MaxList || k <= 0 || k > 1 && b[k-1] == 0 || count > api.MaxList {
		return nil, false
	}
	unlike, rest, ok := textsByRule(b[k:], count, most)
	for i := 1; i < len(unlike); i++ {
		ok = ok && unlike[i-1] < unlike[i]
	}
	places, is := tight.Get(rest, n)
	if !ok || !is {
		return nil, false
	}
	var l []string
	asked := make([]bool, count)
	for _, at := range places {
		if at < 0 || at >= int64(count) {
			return nil, false
		}
		asked[at] = true
		l = append(l, unlike[at])
	}
	if slices.Contains(asked, false) {
		return nil, false
	}
	return l, true
}

// same is n times the same text.
func same(n int, t string) []string {
	return slices.Repeat([]string{t}, n)
}

// apart is n unlike texts, in no order.
func apart(n int) []string {
	l := make([]string, n)
	for i := range l {
		x := (i*7919 + 13) % 20011 // both primes: no two are the same
		l[i] = string([]byte{byte(x), byte(x >> 8)})
	}
	return l
}

// drawn is n texts out of so many, drawn by a rule of their place.
func drawn(n, kinds int) []string {
	l := make([]string, n)
	state := uint64(n)*0x9e3779b97f4a7c15 + uint64(kinds)
	for i := range l {
		state = state*6364136223846793005 + 1442695040888963407
		x := int(state>>33) % kinds
		l[i] = strings.Repeat("xyz"[x%3:x%3+1], x/3%50) + string(num(uint64(x)))
	}
	return l
}

// lists is texts of many sizes, few and many, alike and unlike.
func lists() [][]string {
	l := [][]string{nil, {}, {""}, {"", ""}, {"a"}, {"a", "a"}, {"a", "b"}, {"b", "a"}, {"b", "a", "b"}, {"", "a", ""}, {"a", ""},
		{"ab", "a", "abc", "b", "aa", ""}, {"B", "a", "_", "0", "é", "\xff", "\x00", "\x80", "~"}, {"\x00\x00", "\x00", ""},
		{"\xff\xff", "\xff", "\xfe\xff", "\u00ff", "\u2028", "\U0001f600"}, {"10", "9", "1", "01", "-1"}}
	for _, size := range []int{api.MaxText - 1, api.MaxText, api.MaxText + 1, 127, 128, 129, 5000, 16383, 16384} {
		long := strings.Repeat("l", size)
		l = append(l, []string{long}, []string{long, long}, []string{"", long, long[1:], long, "m"})
	}
	for _, n := range []int{3, 7, 8, 9, 127, 128, 129, 255, 256, 257, 300, api.MaxList - 1, api.MaxList} {
		l = append(l, same(n, ""), same(n, "q"), apart(n), drawn(n, 2), drawn(n, 5), drawn(n, 40), drawn(n, 2000))
	}
	return l
}

// longest is how many bytes the longest one of l has.
func longest(l []string) int {
	n := 0
	for _, t := range l {
		n = max(n, len(t))
	}
	return n
}

// otherCounts is counts far from those of most lists: below 0, about the greatest list, and the greatest ints.
func otherCounts() []int {
	return []int{-1, -2, -api.MaxList, math.MinInt32, math.MinInt + 1, math.MinInt,
		api.MaxList - 1, api.MaxList, api.MaxList + 1, 2 * api.MaxList, math.MaxInt32, 1 << 32, math.MaxInt / 16, math.MaxInt - 1, math.MaxInt}
}

// way is one of the two that texts are written and read in.
type way struct {
	name   string
	put    func([]string) []byte
	get    func([]byte, int, int) ([]string, bool)
	rule   func([]string) []byte
	byRule func([]byte, int, int) ([]string, bool)
}

// ways is both of them.
func ways() []way {
	return []way{
		{"Texts", dict.Plain, dict.Texts, func(l []string) []byte { return plain(l...) }, plainByRule},
		{"Get", dict.Put, dict.Get, byRule, readByRule},
	}
}

// wantGot is whether b is read as the texts that are named, each of at most so many bytes.
func (w way) wantGot(t *testing.T, b []byte, want []string, most int) {
	t.Helper()
	got, ok := w.get(b, len(want), most)
	if !ok || !slices.Equal(got, want) {
		t.Fatalf("%s of %d bytes, %d texts of %d: %q, %v, want %q", w.name, len(b), len(want), most, got[:min(len(got), 9)], ok, want[:min(len(want), 9)])
	}
}

// wantNone is whether b is not n texts of at most so many bytes.
func (w way) wantNone(t *testing.T, b []byte, n, most int) {
	t.Helper()
	if got, ok := w.get(b, n, most); ok || len(got) != 0 {
		t.Fatalf("%s(% x, %d, %d) = %q, %v, want nothing and false", w.name, b[:min(len(b), 60)], n, most, got[:min(len(got), 9)], ok)
	}
}

// wantNever is whether b is not any count of texts, however long they may be.
func (w way) wantNever(t *testing.T, b []byte) {
	t.Helper()
	for _, most := range []int{0, 1, 5, api.MaxText, math.MaxInt} {
		for n := range 8*len(b) + 20 {
			w.wantNone(t, b, n, most)
		}
		for _, n := range otherCounts() {
			w.wantNone(t, b, n, most)
		}
	}
}

// wantByRule is whether b is read as the rule says.
func (w way) wantByRule(t *testing.T, b []byte, n, most int) {
	t.Helper()
	want, is := w.byRule(b, n, most)
	if !is {
		w.wantNone(t, b, n, most)
		return
	}
	w.wantGot(t, b, want, most)
	if got := w.put(want); !bytes.Equal(got, b) {
		t.Fatalf("%s(% x, %d, %d) = %q, which are put as % x", w.name, b, n, most, want, got)
	}
}

func TestKnownBytes(t *testing.T) { // P8.1 to P8.3
	plainWay, dictWay := ways()[0], ways()[1]
	for _, c := range []struct {
		l          []string
		asPlain    []byte
		asDictWant []byte
	}{
		{nil, nil, []byte{0}},
		{[]string{}, nil, []byte{0}},
		{[]string{""}, []byte{0}, []byte{1, 0, 0, 0}},
		{[]string{"", ""}, []byte{0, 0}, []byte{1, 0, 0, 0}},
		{[]string{"a"}, []byte{1, 'a'}, []byte{1, 1, 'a', 0, 0}},
		{[]string{"a", "a", "a"}, []byte{1, 'a', 1, 'a', 1, 'a'}, []byte{1, 1, 'a', 0, 0}},
		{[]string{"b", "a", "b"}, []byte{1, 'b', 1, 'a', 1, 'b'}, []byte{2, 1, 'a', 1, 'b', 0, 1, 5}},
		{[]string{"a", "b"}, []byte{1, 'a', 1, 'b'}, []byte{2, 1, 'a', 1, 'b', 0, 1, 2}},
		{[]string{"b", "a"}, []byte{1, 'b', 1, 'a'}, []byte{2, 1, 'a', 1, 'b', 0, 1, 1}},
		{[]string{"ab", "b", "", "a"}, []byte{2, 'a', 'b', 1, 'b', 0, 1, 'a'}, []byte{4, 0, 1, 'a', 2, 'a', 'b', 1, 'b', 0, 2, 0x4e}},
		{[]string{"\xff", "é", "z"}, []byte{1, 0xff, 2, 0xc3, 0xa9, 1, 'z'}, []byte{3, 1, 'z', 2, 0xc3, 0xa9, 1, 0xff, 0, 2, 6}},
		{[]string{"\x00", "", "\x00"}, []byte{1, 0, 0, 1, 0}, []byte{2, 0, 1, 0, 0, 1, 5}},
	} {
		if got := dict.Plain(c.l); !bytes.Equal(got, c.asPlain) {
			t.Errorf("Plain(%q) = % x, want % x", c.l, got, c.asPlain)
		}
		if got := dict.Put(c.l); !bytes.Equal(got, c.asDictWant) {
			t.Errorf("Put(%q) = % x, want % x", c.l, got, c.asDictWant)
		}
		plainWay.wantGot(t, c.asPlain, c.l, 2)
		dictWay.wantGot(t, c.asDictWant, c.l, 2)
	}
}

func TestPutByRule(t *testing.T) { // P8.1, P8.2
	for _, w := range ways() {
		for _, l := range lists() {
			if got := w.put(l); !bytes.Equal(got, w.rule(l)) {
				t.Fatalf("%d texts, %q first, for %s: other bytes than the rule's", len(l), l[:min(len(l), 8)], w.name)
			}
		}
	}
}

func TestPutIsGot(t *testing.T) { // P8.1, P8.3, P8.4
	for _, w := range ways() {
		for _, l := range lists() {
			for _, most := range []int{longest(l), longest(l) + 1, 1 << 20, math.MaxInt - 1, math.MaxInt} {
				w.wantGot(t, w.put(l), l, most)
				w.wantGot(t, w.rule(l), l, most)
			}
		}
	}
}

func TestPutsOfFewKinds(t *testing.T) { // P8.1 to P8.4: all lists of five kinds, each with bytes of its own among those of as many texts
	kinds := []string{"b", "", "a", "\x80", "ab"}
	for _, w := range ways() {
		for n := range 6 {
			seen := map[string]bool{}
			l := make([]string, n)
			for x := range int(math.Pow(float64(len(kinds)), float64(n))) {
				for i := range l {
					l[i] = kinds[x%len(kinds)]
					x /= len(kinds)
				}
				b := w.put(l)
				if seen[string(b)] || !bytes.Equal(b, w.rule(l)) {
					t.Fatalf("%q are put as % x for %s, want % x", l, b, w.name, w.rule(l))
				}
				seen[string(b)] = true
				w.wantGot(t, b, l, 2)
			}
		}
	}
}

func TestTextsThatAreTooLong(t *testing.T) { // P8.1, P8.3
	for _, w := range ways() {
		for _, l := range lists() {
			b, n := w.put(l), longest(l)
			for _, most := range []int{n - 1, n - 2, n / 2, 0, -1, -2, -n, math.MinInt32, math.MinInt + 1, math.MinInt} {
				if most < n && len(l) > 0 {
					w.wantNone(t, b, len(l), most)
				}
			}
		}
		for at := range 5 { // only one is too long, wherever it stands
			l := []string{"a", "bb", "cc", "dd", "a"}
			l[at] = l[at] + "long"
			w.wantNone(t, w.put(l), len(l), len(l[at])-1)
			w.wantGot(t, w.put(l), l, len(l[at]))
		}
	}
}

func TestNoTexts(t *testing.T) { // P8.1 to P8.3: none of none is too long
	for _, most := range []int{math.MinInt, -1, 0, 1, api.MaxText, math.MaxInt} {
		for _, w := range ways() {
			b := w.put(nil)
			w.wantGot(t, b, nil, most)
			w.wantNone(t, append(slices.Clone(b), 0), 0, most)
			w.wantNone(t, append(slices.Clone(b), 0, 0), 0, most)
			w.wantNone(t, append(slices.Clone(b), plain("a")...), 0, most)
			w.wantNone(t, b, -1, most)
		}
		dictWay := ways()[1]
		dictWay.wantNone(t, nil, 0, most)
		dictWay.wantNone(t, []byte{0x80, 0}, 0, most)
		dictWay.wantNone(t, []byte{1}, 0, most)
		dictWay.wantNone(t, []byte{1, 0}, 0, most)
		for n := 1; n < 20; n++ {
			dictWay.wantNone(t, []byte{0}, n, most)
			dictWay.wantNone(t, []byte{0, 0, 0}, n, most)
		}
	}
}

func TestOtherCounts(t *testing.T) { // P8.1, P8.3
	for _, w := range ways() {
		for _, l := range lists() {
			b := w.put(l)
			for _, n := range append(otherCounts(), 0, 1, 2, len(l)-8, len(l)-2, len(l)-1, len(l)+1, len(l)+2, len(l)+8, len(b), -len(l)) {
				w.wantByRule(t, b, n, 1<<20)
			}
		}
	}
}

func TestATextMoreMayBeTheSameBytes(t *testing.T) { // P8.3, P8.4: as chapter 7 says of the places
	dictWay := ways()[1]
	b := []byte{2, 1, 'a', 1, 'b', 0, 1, 5}
	for n := 3; n <= 8; n++ {
		dictWay.wantGot(t, b, append([]string{"b", "a", "b"}, same(n-3, "a")...), 1)
	}
	dictWay.wantNone(t, b, 2, 1)
	dictWay.wantNone(t, b, 9, 1)
	for n := 1; n <= api.MaxList; n++ {
		dictWay.wantGot(t, []byte{1, 1, 'a', 0, 0}, same(n, "a"), 1)
	}
	dictWay.wantNone(t, []byte{1, 1, 'a', 0, 0}, 0, 1)
	dictWay.wantNone(t, []byte{1, 1, 'a', 0, 0}, api.MaxList+1, 1)
}

func TestMoreThanMaxList(t *testing.T) { // P8.1 to P8.3: they are put, and not got
	for _, w := range ways() {
		for _, n := range []int{api.MaxList + 1, api.MaxList + 8, 2 * api.MaxList} {
			for _, l := range [][]string{same(n, ""), same(n, "q"), apart(n), drawn(n, 2), drawn(n, 300)} {
				b := w.put(l)
				if !bytes.Equal(b, w.rule(l)) {
					t.Fatalf("%d texts are put as other bytes than the rule's for %s", n, w.name)
				}
				for _, k := range append(otherCounts(), 0, 1, n-1, n, n+1) {
					if k > api.MaxList || w.name == "Texts" {
						w.wantNone(t, b, k, math.MaxInt)
					} else {
						w.wantByRule(t, b, k, math.MaxInt)
					}
				}
			}
		}
	}
}

func TestBytesThatAreCut(t *testing.T) { // P8.1, P8.3
	for _, w := range ways() {
		for _, l := range lists() {
			b := w.put(l)
			for size := range len(b) {
				if size < 30 || size > len(b)-30 {
					w.wantNone(t, b[:size], len(l), math.MaxInt)
				}
			}
		}
	}
}

func TestBytesBehindAndAhead(t *testing.T) { // P8.1, P8.3
	for _, w := range ways() {
		for _, l := range lists() {
			b := w.put(l)
			for _, c := range []byte{0, 1, 2, 'a', 0x7f, 0x80, 0xff} {
				w.wantNone(t, append(slices.Clone(b), c), len(l), 1<<20)
				w.wantNone(t, append(slices.Clone(b), c, 0), len(l), 1<<20)
				w.wantByRule(t, append([]byte{c}, b...), len(l), 1<<20)
			}
			w.wantByRule(t, append(slices.Clone(b), b...), 2*len(l), 1<<20)
		}
	}
}

func TestTextsThatNoneIs(t *testing.T) { // P8.3, P8.4
	dictWay := ways()[1]
	for _, b := range [][]byte{
		laid([]string{"a"}),
		laid([]string{""}),
		laid([]string{"a", "b"}, 0),
		laid([]string{"a", "b"}, 1),
		laid([]string{"a", "b"}, 0, 0, 0),
		laid([]string{"a", "b"}, 1, 1, 1),
		laid([]string{"", "a"}, 1, 1),
		laid([]string{"a", "b", "c"}, 0, 2),
		laid([]string{"a", "b", "c"}, 2, 0, 2, 0),
		laid([]string{"a", "b", "c", "d"}, 0, 1, 3, 1),
		laid([]string{"a", "b", "c", "d"}, 0, 1, 2, 2),
	} {
		dictWay.wantNever(t, b)
	}
	dictWay.wantGot(t, laid([]string{"a", "b", "c"}, 2, 0, 1, 0), []string{"c", "a", "b", "a"}, 1)
}

func TestTextsThatDoNotRise(t *testing.T) { // P8.3, P8.4
	dictWay := ways()[1]
	for _, unlike := range [][]string{{"b", "a"}, {"a", "a"}, {"", ""}, {"a", ""}, {"ab", "a"}, {"a", "B"}, {"\xff", "é"}, {"\x80", "a"}, {"9", "10"}} {
		dictWay.wantNever(t, laid(unlike, 0, 1))
		dictWay.wantNever(t, laid(unlike, 1, 0))
		dictWay.wantNever(t, laid(unlike, 0, 0))
		dictWay.wantNever(t, laid(unlike, 1, 0, 1, 0, 0))
		if unlike[0] != unlike[1] {
			dictWay.wantGot(t, laid([]string{unlike[1], unlike[0]}, 0, 1, 0, 1, 1, 0, 0, 0, 0), []string{unlike[1], unlike[0], unlike[1], unlike[0], unlike[0], unlike[1], unlike[1], unlike[1], unlike[1]}, 2)
		}
	}
	for _, unlike := range [][]string{{"a", "c", "b"}, {"b", "a", "c"}, {"a", "b", "b"}, {"a", "a", "b"}, {"a", "b", "a"}} {
		dictWay.wantNever(t, laid(unlike, 0, 1, 2))
		dictWay.wantNever(t, laid(unlike, 2, 1, 0, 1))
	}
}

func TestPlacesThatAreNone(t *testing.T) { // P8.3
	dictWay := ways()[1]
	for _, far := range []int64{2, 3, 4, 100, math.MaxInt32, math.MaxInt32 + 1, 1 << 32, 1<<32 + 1, math.MaxInt64 - 1, math.MaxInt64,
		-1, -2, -100, math.MinInt32, -1 << 32, 1 - 1<<32, math.MinInt64 + 1, math.MinInt64} {
		for _, places := range [][]int64{{far}, {0, far}, {far, 0}, {0, 1, far}, {far, 1, 0}, {1, far, 0, 1}, {far, far}} {
			b := laid([]string{"a", "b"}, places...)
			dictWay.wantNone(t, b, len(places), 1)
			dictWay.wantNone(t, b, len(places), math.MaxInt)
		}
		dictWay.wantNone(t, laid(nil, far), 1, 1)
		dictWay.wantNone(t, laid([]string{"a"}, far), 1, 1)
	}
	dictWay.wantNone(t, laid(nil, 0), 1, 1)
	dictWay.wantNone(t, laid(nil, 0, 0, 0), 3, 1)
	dictWay.wantNone(t, laid([]string{"a"}, 1), 1, 1)
	dictWay.wantNone(t, laid([]string{"a"}, 0, 1), 2, 1)
}

func TestPlacesThatNoPutWrites(t *testing.T) { // P8.3, P8.4: the same places in other bits
	dictWay := ways()[1]
	front := []byte{2, 1, 'a', 1, 'b'}
	dictWay.wantGot(t, append(front[:5:5], 0, 1, 5), []string{"b", "a", "b"}, 1)
	for _, places := range [][]byte{{0, 2, 0x11}, {0, 1, 5, 0}, {0, 1, 0x0d}, {1, 2, 0x1a}, {0x80, 0, 1, 5}, {0, 1}, {0}, nil, {0, 3, 0x41, 0}, {0, 0}} {
		dictWay.wantNone(t, append(front[:5:5], places...), 3, 1)
	}
	dictWay.wantNever(t, []byte{1, 1, 'a', 0, 1, 0})
	dictWay.wantNever(t, []byte{1, 1, 'a', 0, 2, 0})
}

func TestNumbersThatAreNone(t *testing.T) { // P8.1, P8.3, P8.4: of how many texts, and of how many bytes
	plainWay, dictWay := ways()[0], ways()[1]
	high := bytes.Repeat([]byte{0xff}, 9)
	for _, n := range [][]byte{{0x81, 0}, {0x80, 0}, {0x81, 0x80, 0}, {0x80}, high, append(high[:9:9], 2), append(high[:9:9], 0x81, 0), append(high[:9:9], 0), num(5),
		num(1 << 31), num(1 << 32), num(1<<32 + 1), num(1 << 62), num(1<<63 - 1), num(1 << 63), num(1<<63 + 1), num(math.MaxUint64 - 1), num(math.MaxUint64)} {
		for _, most := range []int{1, api.MaxText, math.MaxInt} {
			plainWay.wantNone(t, append(slices.Clone(n), 'a'), 1, most)
			plainWay.wantNone(t, slices.Concat(plain("x"), n, []byte("a")), 2, most)
			dictWay.wantNone(t, slices.Concat(n, plain("a"), tight.Put([]int64{0})), 1, most)
			dictWay.wantNone(t, slices.Concat(num(1), n, []byte("a"), tight.Put([]int64{0})), 1, most)
			dictWay.wantNone(t, slices.Concat(num(2), plain("0"), n, []byte("a"), tight.Put([]int64{0, 1})), 2, most)
			for _, k := range otherCounts() {
				plainWay.wantNone(t, append(slices.Clone(n), 'a'), k, most)
				dictWay.wantNone(t, slices.Concat(n, plain("a"), tight.Put([]int64{0})), k, most)
			}
		}
	}
	for k := 2; k < 9; k++ { // more unlike texts than texts
		l := apart(k)
		dictWay.wantNone(t, byRule(l), k-1, 9)
		dictWay.wantNone(t, laid(slices.Sorted(slices.Values(l)), 0), 1, 9)
	}
}

func TestNoBytesAreTwoLists(t *testing.T) { // P8.1, P8.3, P8.4: all short bytes
	for _, w := range ways() {
		counts := func(b []byte) {
			for n := -1; n < 2*len(b)+2; n++ {
				for _, most := range []int{-1, 0, 1, 2, math.MaxInt} {
					w.wantByRule(t, b, n, most)
				}
			}
			w.wantByRule(t, b, api.MaxList, 2)
			w.wantByRule(t, b, api.MaxList+1, 2)
		}
		counts(nil)
		for i := range 256 {
			counts([]byte{byte(i)})
		}
		for i := range 1 << 16 {
			w.wantByRule(t, []byte{byte(i), byte(i >> 8)}, i%3, i%4)
			w.wantByRule(t, []byte{2, 1, 'a', 1, 'b', 0, byte(i), byte(i >> 8)}, i%13, 1+i%2)
			w.wantByRule(t, []byte{2, 1, byte(i), 1, byte(i >> 8), 0, 1, 2}, 2, 1)
		}
		kinds := []byte{0, 1, 2, 3, 0x80, 0xff}
		for size := 3; size < 6; size++ {
			b := make([]byte, size)
			for x := range int(math.Pow(float64(len(kinds)), float64(size))) {
				for i := range b {
					b[i] = kinds[x%len(kinds)]
					x /= len(kinds)
				}
				counts(b)
			}
		}
	}
}

func TestBytesThatAreTurned(t *testing.T) { // P8.3, P8.4: each byte of a dictionary's, to each other one
	for _, w := range ways() {
		for _, l := range [][]string{{"b", "a", "b"}, {"", "ab", "a", "ab", "b"}, drawn(20, 4), same(9, "xy"), apart(12)} {
			b := w.put(l)
			for at := range b {
				for c := range 256 {
					other := slices.Clone(b)
					other[at] = byte(c)
					w.wantByRule(t, other, len(l), api.MaxText)
				}
			}
		}
	}
}

func TestTheSameEachTime(t *testing.T) { // rule 4: not by the order in which a map is gone through
	for _, l := range [][]string{{"b", "a", "b"}, {"c", "b", "a"}, apart(100), drawn(300, 40)} {
		want := byRule(l)
		for range 50 {
			if !bytes.Equal(dict.Put(l), want) {
				t.Fatalf("Put of %d texts is other bytes another time", len(l))
			}
		}
	}
}

func TestNothingIsSharedOrChanged(t *testing.T) { // rules 3 and 4
	for _, w := range ways() {
		for _, l := range [][]string{{"a"}, {"b", "a", "b"}, same(200, "q"), drawn(50, 7), apart(60)} {
			behind := append(slices.Clone(l), l[0], "behind")
			handed := behind[:len(l)]
			b := w.put(handed)
			was := slices.Clone(b)
			room := append(slices.Clone(b), 7, 9)[:len(b)]
			got, _ := w.get(room, len(l), api.MaxText)
			other, _ := w.get(room, len(l), api.MaxText)
			got = append(got, "1", "2")
			for i := range got {
				got[i] = "turned"
			}
			if !slices.Equal(other, l) || !bytes.Equal(room, was) || !bytes.Equal(room[:len(b)+2][len(b):], []byte{7, 9}) || !slices.Equal(handed, l) || behind[len(l)] != l[0] || behind[len(l)+1] != "behind" {
				t.Fatalf("%s: what was handed in is changed, or two answers share memory", w.name)
			}
			clear(room)
			clear(b)
			if !slices.Equal(other, l) || !bytes.Equal(w.put(handed), was) {
				t.Fatalf("%s: what is answered shares memory with what was handed in, or is another one the second time", w.name)
			}
			b = w.put(handed)
			clear(handed)
			if !bytes.Equal(b, was) {
				t.Fatalf("%s: the bytes turned with their texts", w.name)
			}
		}
	}
}
