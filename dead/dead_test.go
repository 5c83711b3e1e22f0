package dead_test

import (
	"bytes"
	"encoding/binary"
	"hash/crc32"
	"math"
	"slices"
	"strconv"
	"testing"

	"firkin/api"
	"firkin/dead"
)

// drawn is n truths, drawn by a rule of their place; of them about share of 8 are true.
func drawn(n, share int) []bool {
	l := make([]bool, n)
	state := uint32(n)*2654435761 + uint32(share)*40503 + 12345
	for i := range l {
		state = state*1664525 + 1013904223
		l[i] = int(state>>29) < share
	}
	return l
}

// ofNumber is the n lowest bits of x, the lowest first.
func ofNumber(x, n int) []bool {
	l := make([]bool, n)
	for i := range l {
		l[i] = x>>i&1 == 1
	}
	return l
}

// lists is which rows are gone, of each number that a segment may have, and of none.
func lists() [][]bool {
	l := [][]bool{nil, {}}
	for n := range api.MaxRows + 1 {
		l = append(l, drawn(n, 0), drawn(n, 1), drawn(n, 4), drawn(n, 8))
	}
	return l
}

// bitsOf is l as bits, eight a byte, the first one its lowest.
func bitsOf(l []bool) []byte {
	b := make([]byte, (len(l)+7)/8)
	for i, is := range l {
		if is {
			b[i/8] |= 1 << (i % 8)
		}
	}
	return b
}

// says is a number of rows, and bits behind it.
func says(n uint64, bits ...byte) []byte {
	return append(binary.AppendUvarint(nil, n), bits...)
}

// laid is b as a frame, as its chapter says it.
func laid(b []byte) []byte {
	f := binary.AppendUvarint(nil, uint64(len(b)))
	f = binary.LittleEndian.AppendUint32(f, crc32.Checksum(b, crc32.MakeTable(crc32.Castagnoli)))
	return append(f, b...)
}

// byRule is l's bytes as the chapter says them.
func byRule(l []bool) []byte {
	return laid(says(uint64(len(l)), bitsOf(l)...))
}

// wantGot is whether b says of just those rows whether they are gone.
func wantGot(t *testing.T, b []byte, want []bool) {
	t.Helper()
	got, err := dead.Get(b, len(want))
	if err != api.OK || !slices.Equal(got, want) {
		t.Fatalf("Get(% x, %d) = %v, %d, want %v", b, len(want), got, err, want)
	}
}

// wantNone is whether Get of b and n is the error alone.
func wantNone(t *testing.T, what string, b []byte, n int, want api.Errno) {
	t.Helper()
	got, err := dead.Get(b, n)
	if err != want || len(got) != 0 {
		t.Fatalf("%s: Get(% x, %d) = %v, %d, want error %d alone", what, b, n, got, err, want)
	}
}

func TestKnownBytes(t *testing.T) { // P14.1
	for _, c := range []struct {
		l    []bool
		body []byte
	}{
		{nil, []byte{0}},
		{[]bool{}, []byte{0}},
		{[]bool{false}, []byte{1, 0}},
		{[]bool{true}, []byte{1, 1}},
		{[]bool{false, false, false}, []byte{3, 0}},
		{[]bool{true, false, true}, []byte{3, 5}},
		{slices.Repeat([]bool{true}, 8), []byte{8, 0xff}},
		{slices.Repeat([]bool{true}, 9), []byte{9, 0xff, 1}},
		{make([]bool, 127), append([]byte{0x7f}, make([]byte, 16)...)},
		{make([]bool, 128), append([]byte{0x80, 1}, make([]byte, 16)...)},
		{slices.Repeat([]bool{true}, 200), append([]byte{0xc8, 1}, slices.Repeat([]byte{0xff}, 25)...)},
	} {
		if got := dead.Put(c.l); !bytes.Equal(got, laid(c.body)) {
			t.Errorf("Put(%v) = % x, want a frame of % x", c.l, got, c.body)
		}
		wantGot(t, laid(c.body), c.l)
	}
	got := dead.Put(make([]bool, 3)) // the chapter's example
	if len(got) != 7 || got[0] != 2 || got[5] != 3 || got[6] != 0 {
		t.Errorf("Put of none gone of three = % x, want 02, a sum, 03 00", got)
	}
}

func TestPutByRule(t *testing.T) { // P14.1
	for _, l := range lists() {
		if got := dead.Put(l); !bytes.Equal(got, byRule(l)) {
			t.Fatalf("Put(%v) = % x, want % x", l, got, byRule(l))
		}
	}
}

func TestPutOfTooMany(t *testing.T) { // P14.1
	for _, n := range []int{201, 202, 208, 255, 256, 300, 4096, 1 << 20} {
		for _, share := range []int{0, 4, 8} {
			if got := dead.Put(drawn(n, share)); len(got) != 0 {
				t.Errorf("Put of %d rows = %d bytes, want nothing", n, len(got))
			}
		}
	}
}

func TestPutIsGot(t *testing.T) { // P14.3
	for _, l := range lists() {
		wantGot(t, dead.Put(l), l)
	}
	for n := range 11 {
		for x := range 1 << n {
			wantGot(t, dead.Put(ofNumber(x, n)), ofNumber(x, n))
		}
	}
}

func TestNoFrame(t *testing.T) { // P14.1
	wantNone(t, "nil", nil, 0, api.ErrText)
	wantNone(t, "no bytes", []byte{}, 3, api.ErrText)
	wantNone(t, "a frame's number in two bytes", []byte{0x80, 0, 0, 0, 0, 0}, 0, api.ErrText)
	wantNone(t, "a frame above MaxObject", laid(make([]byte, api.MaxObject+1)), 0, api.ErrText)
	wantNone(t, "no frame about it", []byte{3, 5}, 3, api.ErrText)
	for _, n := range []int{0, 1, 3, 8, 9, 128, 200} {
		b := dead.Put(drawn(n, 4))
		for cut := range b {
			wantNone(t, "cut", b[:cut], n, api.ErrText)
		}
		body := len(says(uint64(n), bitsOf(drawn(n, 4))...))
		for at := len(b) - body - 4; at < len(b); at++ {
			for x := 1; x < 256; x++ {
				b[at] ^= byte(x)
				wantNone(t, "a byte turned", b, n, api.ErrCheck)
				b[at] ^= byte(x)
			}
		}
	}
}

func TestCheckAheadOfText(t *testing.T) { // P14.1, rule 2
	b := dead.Put(drawn(20, 4))
	b[len(b)-1] ^= 0x80 // a bit beyond the last row
	wantNone(t, "another sum, and bits that are none", b, 20, api.ErrCheck)
	wantNone(t, "another sum, and another number", b, 19, api.ErrCheck)
	wantNone(t, "another sum, and something behind", append(b, 0), 20, api.ErrCheck)
	wantNone(t, "another sum, and a number below 0", b, -1, api.ErrCheck)
	wantNone(t, "another sum of nothing", []byte{0, 1, 0, 0, 0}, 0, api.ErrCheck)
}

func TestSomethingBehind(t *testing.T) { // P14.1
	for _, n := range []int{0, 1, 7, 8, 9, 127, 128, 200} {
		b := dead.Put(drawn(n, 4))
		for _, tail := range [][]byte{{0}, {0xff}, {0, 0, 0, 0, 0}, b, make([]byte, 64)} {
			wantNone(t, "something behind", slices.Concat(b, tail), n, api.ErrText)
		}
	}
}

func TestAnotherNumber(t *testing.T) { // P14.1
	far := []int{math.MinInt, -1 << 32, -201, -200, -8, -1, 201, 256, 1 << 8, 1 << 32, math.MaxInt}
	for _, n := range []int{0, 1, 2, 7, 8, 9, 16, 127, 128, 199, 200} {
		b := dead.Put(make([]bool, n))
		for other := -3; other < 210; other++ {
			if other != n {
				wantNone(t, "another number", b, other, api.ErrText)
			}
		}
		for _, other := range far {
			wantNone(t, "another number", b, other, api.ErrText)
			wantNone(t, "another number, by as many as a word has", b, n+1<<32, api.ErrText)
			wantNone(t, "another number, below 0", b, n+math.MinInt, api.ErrText)
		}
	}
}

func TestTooManyRows(t *testing.T) { // P14.1
	for _, n := range []int{201, 202, 207, 208, 209, 255, 256, 300, 4096, 1 << 20} {
		wantNone(t, "more than MaxRows", byRule(make([]bool, n)), n, api.ErrText)
		wantNone(t, "more than MaxRows, all gone", byRule(drawn(n, 8)), n, api.ErrText)
	}
	for _, n := range []int{3, 0, -1, math.MinInt, math.MaxInt} {
		for _, bits := range [][]byte{nil, {0}, {5}, make([]byte, 25)} {
			wantNone(t, "2^64 - 1 and less", laid(says(uint64(n)+1<<63, bits...)), n, api.ErrText)
			wantNone(t, "2^32 and more", laid(says(uint64(n)+1<<32, bits...)), n, api.ErrText)
			wantNone(t, "2^8 and more", laid(says(uint64(n)+1<<8, bits...)), n, api.ErrText)
		}
	}
	wantNone(t, "2^64 - 1 rows", laid(says(math.MaxUint64)), -1, api.ErrText)
	wantNone(t, "2^63 - 1 rows", laid(says(math.MaxInt64)), math.MaxInt, api.ErrText)
}

func TestNoNumber(t *testing.T) { // P14.1
	for _, c := range []struct {
		what string
		body []byte
		n    int
	}{
		{"nothing in the frame", nil, 0},
		{"0 in two bytes", []byte{0x80, 0}, 0},
		{"3 in two bytes", []byte{0x83, 0, 5}, 3},
		{"200 in three bytes", append([]byte{0xc8, 0x81, 0}, make([]byte, 25)...), 200},
		{"a number without its last byte", []byte{0x80}, 0},
		{"3 without its last byte", []byte{0x83}, 3},
		{"eleven bytes", slices.Repeat([]byte{0xff}, 11), -1},
	} {
		wantNone(t, c.what, laid(c.body), c.n, api.ErrText)
		wantNone(t, c.what+", none gone", laid(c.body), 0, api.ErrText)
	}
}

func TestBitsThatAreNone(t *testing.T) { // P14.1
	for n := range api.MaxRows + 1 {
		bits := bitsOf(drawn(n, 4))
		wantNone(t, "a byte of bits too many", laid(says(uint64(n), append(slices.Clone(bits), 0)...)), n, api.ErrText)
		if n == 0 {
			continue
		}
		wantNone(t, "a byte of bits too few", laid(says(uint64(n), bits[:len(bits)-1]...)), n, api.ErrText)
		wantNone(t, "no bits", laid(says(uint64(n))), n, api.ErrText)
		for bit := n % 8; bit > 0 && bit < 8; bit++ {
			b := slices.Clone(bits)
			b[len(b)-1] |= 1 << bit
			wantNone(t, "a bit beyond the last row", laid(says(uint64(n), b...)), n, api.ErrText)
		}
	}
}

func TestNoOtherBytesAreGot(t *testing.T) { // P14.1, P14.3
	for first := range 256 {
		for second := range 256 {
			b := laid([]byte{byte(first), byte(second)})
			for _, n := range []int{0, 1, 3, 8, 9, first, first % 128} {
				l, err := dead.Get(b, n)
				if err == api.OK && !bytes.Equal(dead.Put(l), b) || err != api.OK && (err != api.ErrText || len(l) != 0) {
					t.Fatalf("Get(% x, %d) = %v, %d", b, n, l, err)
				}
			}
		}
	}
}

// wantMore is whether More of l and gone is just those rows gone.
func wantMore(t *testing.T, l []bool, gone []int, want []bool) {
	t.Helper()
	got, err := dead.More(l, gone)
	if err != api.OK || !slices.Equal(got, want) {
		t.Fatalf("More(%v, %v) = %v, %d, want %v", l, gone, got, err, want)
	}
}

// wantNoMore is whether More of l and gone is the error alone.
func wantNoMore(t *testing.T, l []bool, gone []int, want api.Errno) {
	t.Helper()
	got, err := dead.More(l, gone)
	if err != want || len(got) != 0 {
		t.Fatalf("More(%d rows, %v) = %v, %d, want error %d alone", len(l), gone, got, err, want)
	}
}

func TestMore(t *testing.T) { // P14.2
	wantMore(t, nil, nil, nil)
	wantMore(t, []bool{}, []int{}, nil)
	wantMore(t, []bool{false}, nil, []bool{false})
	wantMore(t, []bool{true}, nil, []bool{true})
	wantMore(t, []bool{false}, []int{0}, []bool{true})
	wantMore(t, []bool{true}, []int{0}, []bool{true})
	wantMore(t, []bool{false, false, true}, []int{0}, []bool{true, false, true})
	wantMore(t, []bool{false, false, true}, []int{1, 0}, []bool{true, true, true})
	wantMore(t, []bool{false, false, false}, []int{2, 2, 0, 2}, []bool{true, false, true})
	wantMore(t, []bool{false, false}, slices.Repeat([]int{1}, 1000), []bool{false, true})
}

func TestMoreByRule(t *testing.T) { // P14.2
	const n = 5
	for x := range 1 << n {
		for y := range 1 << n {
			var gone []int
			for at := n - 1; at >= 0; at-- {
				if y>>at&1 == 1 {
					gone = append(gone, at)
				}
			}
			wantMore(t, ofNumber(x, n), gone, ofNumber(x|y, n))
		}
	}
	for _, l := range lists() {
		for at := range l {
			want := slices.Clone(l)
			want[at] = true
			wantMore(t, l, []int{at}, want)
		}
	}
}

func TestMoreThatMayNotBe(t *testing.T) { // P14.2, rule 2
	for _, n := range []int{201, 202, 256, 4096} {
		wantNoMore(t, make([]bool, n), nil, api.ErrMany)
		wantNoMore(t, make([]bool, n), []int{0}, api.ErrMany)
		wantNoMore(t, make([]bool, n), []int{-1}, api.ErrMany)
		wantNoMore(t, make([]bool, n), []int{n}, api.ErrMany)
	}
	for _, n := range []int{0, 1, 2, 8, 199, 200} {
		for _, at := range []int{-1, -2, -n - 1, n, n + 1, 201, 1 << 8, 1 << 32, math.MinInt, math.MaxInt} {
			wantNoMore(t, drawn(n, 4), []int{at}, api.ErrArg)
			if n > 0 {
				wantNoMore(t, drawn(n, 4), []int{0, n - 1, at}, api.ErrArg)
				wantNoMore(t, drawn(n, 4), []int{at, 0}, api.ErrArg)
			}
		}
	}
}

// rowsOf is so many rows, of unlike cells.
func rowsOf(n int) [][]api.Cell {
	rows := make([][]api.Cell, n)
	for i := range rows {
		rows[i] = []api.Cell{{I: int64(i)}, {S: strconv.Itoa(i)}, {Null: true}}
	}
	return rows
}

// places is which of the n rows that rowsOf told a list has.
func places(rows [][]api.Cell) []int {
	var at []int
	for _, row := range rows {
		at = append(at, int(row[0].I))
	}
	return at
}

// same is whether two lists have the same rows.
func same(a, b [][]api.Cell) bool {
	return slices.EqualFunc(a, b, slices.Equal[[]api.Cell])
}

// wantLive is whether Live of rows and l is what is wanted.
func wantLive(t *testing.T, rows [][]api.Cell, l []bool, want [][]api.Cell) {
	t.Helper()
	if got := dead.Live(rows, l); !same(got, want) {
		t.Fatalf("Live(%v, %v) = %v, want %v", rows, l, got, want)
	}
}

func TestLive(t *testing.T) { // P14.2
	rows := rowsOf(3)
	a, b, c := rows[0], rows[1], rows[2]
	for _, x := range []struct {
		l    []bool
		want [][]api.Cell
	}{
		{nil, rows},
		{[]bool{}, rows},
		{[]bool{false, false, false}, rows},
		{[]bool{true, false, false}, [][]api.Cell{b, c}},
		{[]bool{false, true, false}, [][]api.Cell{a, c}},
		{[]bool{false, false, true}, [][]api.Cell{a, b}},
		{[]bool{true, false, true}, [][]api.Cell{b}},
		{[]bool{true, true, true}, nil},
		{[]bool{true}, [][]api.Cell{b, c}},
		{[]bool{false}, rows},
		{[]bool{false, true}, [][]api.Cell{a, c}},
		{[]bool{true, true}, [][]api.Cell{c}},
		{[]bool{false, false, false, true}, rows},
		{[]bool{true, false, false, true, true, false, true}, [][]api.Cell{b, c}},
		{slices.Repeat([]bool{true}, 300), nil},
	} {
		wantLive(t, rows, x.l, x.want)
	}
	for _, l := range [][]bool{nil, {}, {false}, {true}, {true, false}} {
		wantLive(t, nil, l, nil)
		wantLive(t, [][]api.Cell{}, l, nil)
	}
	wantLive(t, [][]api.Cell{a, a, b, a}, []bool{true, false}, [][]api.Cell{a, b, a})
	wantLive(t, [][]api.Cell{nil, {}, a, nil}, []bool{false, true}, [][]api.Cell{nil, a, nil})
}

func TestLiveByRule(t *testing.T) { // P14.2
	for n := range 8 {
		for size := range 10 {
			for x := range 1 << size {
				rows, l := rowsOf(n), ofNumber(x, size)
				var want [][]api.Cell
				for at := range rows {
					if at >= size || !l[at] {
						want = append(want, rows[at])
					}
				}
				wantLive(t, rows, l, want)
			}
		}
	}
}

func TestLiveOfMany(t *testing.T) { // P14.2
	const n = 200000
	rows := rowsOf(n)
	wantLive(t, rows, drawn(n, 0), rows)
	wantLive(t, rows, drawn(n, 8), nil)
	wantLive(t, rows, drawn(n-7, 8), rows[n-7:])
	other := make([]bool, n)
	for at := range other {
		other[at] = at%2 == 0
	}
	got := dead.Live(rows, other)
	if len(got) != n/2 {
		t.Fatalf("Live of each second one of %d has %d rows", n, len(got))
	}
	for i, at := range places(got) {
		if at != 2*i+1 {
			t.Fatalf("the row %d of those that are left is the row %d of all", i, at)
		}
	}
}

func TestNothingComesBack(t *testing.T) { // P14.3
	for _, n := range []int{0, 1, 2, 8, 33, 200} {
		rows := rowsOf(n)
		for share := range 9 {
			l := drawn(n, share)
			for _, gone := range [][]int{nil, {0}, {n - 1}, {n / 2, 0}, {n / 3, n / 2, n / 3}} {
				more, err := dead.More(l, gone)
				if err != api.OK {
					continue
				}
				live := places(dead.Live(rows, l))
				want := slices.DeleteFunc(live, func(at int) bool { return slices.Contains(gone, at) })
				if got := places(dead.Live(rows, more)); !slices.Equal(got, want) {
					t.Fatalf("Live of More(%v, %v) is the rows %v, want %v", l, gone, got, want)
				}
				wantGot(t, dead.Put(more), more)
			}
		}
	}
}

func TestPutAndGetShareNothing(t *testing.T) { // rules 3 and 4
	l := make([]bool, 20, 200)
	copy(l, drawn(20, 4))
	b := dead.Put(l)
	again := dead.Put(l)
	clear(b[:cap(b)])
	if !slices.Equal(l, drawn(20, 4)) || !slices.Equal(l[20:200], make([]bool, 180)) || !bytes.Equal(again, byRule(l)) {
		t.Error("what is put shares memory, or is changed")
	}
	b = append(slices.Clone(again), make([]byte, 30)...)[:len(again)]
	got, _ := dead.Get(b, 20)
	other, _ := dead.Get(b, 20)
	clear(got[:cap(got)])
	if !slices.Equal(b[:len(b)+30], append(slices.Clone(again), make([]byte, 30)...)) {
		t.Error("Get changes what is behind its bytes, or shares memory with them")
	}
	clear(b)
	if !slices.Equal(other, drawn(20, 4)) {
		t.Error("what is got shares memory")
	}
}

func TestMoreSharesNothing(t *testing.T) { // rule 3
	for _, gone := range [][]int{nil, {}, {3, 1}, {0}, {3, 1, 20}} {
		l := make([]bool, 20, 200)
		copy(l, drawn(20, 4))
		at := slices.Clone(gone)
		more, _ := dead.More(l, at)
		for i := range more[:cap(more)] {
			more[:cap(more)][i] = true
		}
		if !slices.Equal(l[:200], append(drawn(20, 4), make([]bool, 180)...)) || !slices.Equal(at, gone) {
			t.Errorf("More of %v shares memory, or changes what is handed in", gone)
		}
	}
}

func TestLiveSharesNothing(t *testing.T) { // rule 3
	for size := range 6 {
		for x := range 1 << size {
			rows := rowsOf(9)
			l := append(ofNumber(x, size), make([]bool, 30)...)[:size]
			live := dead.Live(rows[:4], l)
			if !same(rows, rowsOf(9)) || !slices.Equal(l, ofNumber(x, size)) {
				t.Fatalf("Live of %v changes what is handed in", l)
			}
			again := dead.Live(rows[:4], l)
			for _, row := range live {
				clear(row[:cap(row)])
			}
			clear(live[:cap(live)])
			if !same(rows, rowsOf(9)) {
				t.Fatalf("Live of %v shares memory with rows", l)
			}
			want := places(again)
			for i, row := range again {
				grown := append(row, api.Cell{I: 77})
				grown[0].I = -1
				clear(grown[:cap(grown)])
				again[i] = []api.Cell{{I: int64(want[i])}}
				if !slices.Equal(places(again[i+1:]), want[i+1:]) {
					t.Fatalf("two rows of Live of %v share memory", l)
				}
			}
		}
	}
	row := []api.Cell{{I: 1}}
	two := dead.Live([][]api.Cell{row, row}, nil)
	two[0][0].I = 2
	if two[1][0].I != 1 || row[0].I != 1 {
		t.Error("a row that is there twice shares memory")
	}
}
