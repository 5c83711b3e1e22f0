package seg_test

import (
	"bytes"
	"encoding/binary"
	"hash/crc32"
	"math"
	"slices"
	"strconv"
	"strings"
	"testing"

	"firkin/api"
	"firkin/chunk"
	"firkin/frame"
	"firkin/schema"
	"firkin/seg"
	"firkin/vint"
	"firkin/zone"
)

var null = api.Cell{Null: true}

// col is a column whose cells are not null.
func col(name string, ty int) api.Col { return api.Col{Name: name, Type: ty} }

// open is a column whose cells may be null.
func open(name string, ty int) api.Col { return api.Col{Name: name, Type: ty, Null: true} }

// n is the cell of a number or a truth.
func n(i int64) api.Cell { return api.Cell{I: i} }

// s is the cell of a text.
func s(t string) api.Cell { return api.Cell{S: t} }

// many is so many columns, of unlike names, of all types, null or not.
func many(size int) []api.Col {
	l := make([]api.Col, size)
	for i := range l {
		l[i] = api.Col{Name: "c" + strconv.Itoa(i), Type: 1 + i%3, Null: i%2 == 1}
	}
	return l
}

// rowsOf is so many rows of these columns, their cells drawn by a rule of the seed.
func rowsOf(cols []api.Col, size int, seed uint64) [][]api.Cell {
	rows := make([][]api.Cell, size)
	for at := range rows {
		rows[at] = make([]api.Cell, len(cols))
		for i, c := range cols {
			seed = seed*6364136223846793005 + 1442695040888963407
			draw := seed >> 33
			switch {
			case c.Null && draw%3 == 0:
				rows[at][i] = null
			case c.Type == api.TyInt:
				rows[at][i] = n(int64(draw%1000) - 500)
			case c.Type == api.TyBool:
				rows[at][i] = n(int64(draw / 3 % 2))
			default:
				rows[at][i] = s(strings.Repeat("abc"[draw%3:draw%3+1], int(draw/3%41)))
			}
		}
	}
	return rows
}

// segment is columns, and rows that a segment of them may have.
type segment struct {
	cols []api.Col
	rows [][]api.Cell
}

// good is some segments.
func good() []segment {
	l := []segment{
		{[]api.Col{col("a", api.TyInt)}, [][]api.Cell{{n(7)}}},
		{[]api.Col{col("a", api.TyInt)}, [][]api.Cell{{n(math.MinInt64)}, {n(math.MaxInt64)}, {n(0)}}},
		{[]api.Col{open("a", api.TyInt)}, [][]api.Cell{{null}, {n(0)}, {null}}},
		{[]api.Col{open("a", api.TyInt), open("b", api.TyBool), open("c", api.TyText)}, slices.Repeat([][]api.Cell{{null, null, null}}, 9)},
		{[]api.Col{col("b", api.TyBool)}, [][]api.Cell{{n(1)}, {n(0)}}},
		{[]api.Col{open("t", api.TyText)}, [][]api.Cell{{s("")}, {null}, {s("\xff\x00")}, {s(strings.Repeat("x", 40))}}},
		{[]api.Col{col("a", api.TyInt), col("b", api.TyInt)}, [][]api.Cell{{n(1), n(2)}, {n(3), n(4)}, {n(5), n(6)}}},
		{[]api.Col{col("a", api.TyText), open("b", api.TyInt)}, slices.Repeat([][]api.Cell{{s("abcd"), n(300)}}, 200)},
	}
	for cols := 1; cols <= api.MaxCols; cols++ {
		for i, rows := range []int{1, 2, 3, 7, 8, 9, 64, 199, 200} {
			l = append(l, segment{many(cols), rowsOf(many(cols), rows, uint64(100*cols+i))})
		}
	}
	return l
}

// short is those of good that have few rows.
func short() []segment {
	return slices.DeleteFunc(good(), func(x segment) bool { return len(x.rows) > 9 })
}

// badCols is some columns that no table may have.
func badCols() [][]api.Col {
	return [][]api.Col{
		nil, {}, {{}}, many(7), many(8), many(200),
		{col("A", api.TyInt)}, {col("", api.TyInt)}, {col("and", api.TyText)},
		{col("a", 0)}, {open("a", 4)}, {col("a", -1)},
		{col("a", api.TyInt), col("a", api.TyInt)}, {col("a", api.TyInt), open("a", api.TyText)},
	}
}

// laid is b as a frame, as its chapter says it.
func laid(b []byte) []byte {
	f := binary.AppendUvarint(nil, uint64(len(b)))
	f = binary.LittleEndian.AppendUint32(f, crc32.Checksum(b, crc32.MakeTable(crc32.Castagnoli)))
	return append(f, b...)
}

// cellByRule is c as bytes, as its chapter says it.
func cellByRule(ty int, c api.Cell) []byte {
	if ty == api.TyText {
		return append(binary.AppendUvarint([]byte{1}, uint64(len(c.S))), c.S...)
	}
	return binary.AppendVarint([]byte{1}, c.I)
}

// below is whether a is ahead of b; neither is null.
func below(a, b api.Cell) bool { return a.I < b.I || a.I == b.I && a.S < b.S }

// zoneByRule is the zone of the column i of rows.
func zoneByRule(rows [][]api.Cell, i int) api.Zone {
	z := api.Zone{Rows: len(rows)}
	bounded := false
	for _, row := range rows {
		c := row[i]
		if c.Null {
			z.Nulls++
			continue
		}
		if !bounded || below(c, z.Low) {
			z.Low = c
		}
		if !bounded || below(z.High, c) {
			z.High = c
		}
		bounded = true
	}
	return z
}

// footByRule is what a footer of so many rows is, ahead of its being laid in a frame: of each column the size of its chunk's frame, and its zone.
func footByRule(rows int, cols []api.Col, sizes []int, zones []api.Zone) []byte {
	b := binary.AppendUvarint(nil, uint64(rows))
	for i, c := range cols {
		b = binary.AppendUvarint(b, uint64(sizes[i]))
		b = binary.AppendUvarint(b, uint64(zones[i].Rows))
		b = binary.AppendUvarint(b, uint64(zones[i].Nulls))
		if zones[i].Rows > zones[i].Nulls {
			b = append(b, cellByRule(c.Type, zones[i].Low)...)
			b = append(b, cellByRule(c.Type, zones[i].High)...)
		}
	}
	return b
}

// chunks is the frames of x's columns, and their zones.
func (x segment) chunks() ([][]byte, []api.Zone) {
	var frames [][]byte
	var zones []api.Zone
	for i, c := range x.cols {
		var cells []api.Cell
		for _, row := range x.rows {
			cells = append(cells, row[i])
		}
		frames = append(frames, laid(chunk.Put(c.Type, cells)))
		zones = append(zones, zoneByRule(x.rows, i))
	}
	return frames, zones
}

// sizesOf is how many bytes each of them has.
func sizesOf(frames [][]byte) []int {
	var l []int
	for _, f := range frames {
		l = append(l, len(f))
	}
	return l
}

// whole is x's bytes, and how many of them the footer has, as the chapter says them.
func (x segment) whole() ([]byte, int) {
	frames, zones := x.chunks()
	footer := laid(footByRule(len(x.rows), x.cols, sizesOf(frames), zones))
	return append(slices.Concat(frames...), footer...), len(footer)
}

// foot is what x's footer says.
func (x segment) foot() seg.Foot {
	frames, zones := x.chunks()
	f := seg.Foot{Rows: len(x.rows)}
	off := 0
	for i, b := range frames {
		f.Chunks = append(f.Chunks, api.Chunk{Off: off, Len: len(b), Zone: zones[i]})
		off += len(b)
	}
	return f
}

// sameRows is whether a and b are the same rows.
func sameRows(a, b [][]api.Cell) bool {
	return slices.EqualFunc(a, b, slices.Equal[[]api.Cell])
}

// sameFoot is whether a and b say the same.
func sameFoot(a, b seg.Foot) bool {
	return a.Rows == b.Rows && slices.Equal(a.Chunks, b.Chunks)
}

// told is the beginning of b.
func told(b []byte) []byte { return b[:min(len(b), 80)] }

// takenByRule is the number that b begins with, which must be at most so much, and what is behind it.
func takenByRule(b []byte, most uint64) (int, []byte, bool) {
	got, size := binary.Uvarint(b)
	if size <= 0 || size > 1 && b[size-1] == 0 || got > most {
		return 0, nil, false
	}
	return int(got), b[size:], true
}

// readByRule is what Read answers, number by number.
func readByRule(cols []api.Col, b []byte, size int) (seg.Foot, api.Errno) {
	if schema.Check(cols) != api.OK {
		return seg.Foot{}, api.ErrArg
	}
	says, long, err := frame.Get(b)
	if err != api.OK {
		return seg.Foot{}, err
	}
	if long < len(b) {
		return seg.Foot{}, api.ErrText
	}
	var f seg.Foot
	rows, says, ok := takenByRule(says, 200)
	if !ok || rows == 0 {
		return seg.Foot{}, api.ErrText
	}
	f.Rows = rows
	off := 0
	for _, c := range cols {
		var long int
		long, says, ok = takenByRule(says, 1<<20)
		if !ok {
			return seg.Foot{}, api.ErrText
		}
		source := vint.From(says)
		z := zone.Take(source, c.Type)
		if !source.Ok() || z.Rows != rows {
			return seg.Foot{}, api.ErrText
		}
		says = says[len(says)-source.Left():]
		f.Chunks = append(f.Chunks, api.Chunk{Off: off, Len: long, Zone: z})
		off += long
	}
	if len(says) > 0 || off+len(b) != size {
		return seg.Foot{}, api.ErrText
	}
	return f, api.OK
}

// columnByRule is what Column answers, cell by cell.
func columnByRule(cols []api.Col, f seg.Foot, i int, b []byte) ([]api.Cell, api.Errno) {
	if i < 0 || i >= len(cols) || i >= len(f.Chunks) {
		return nil, api.ErrArg
	}
	says, long, err := frame.Get(b)
	if err != api.OK {
		return nil, err
	}
	l, ok := chunk.Get(cols[i].Type, says, f.Rows)
	if !ok || long != len(b) {
		return nil, api.ErrText
	}
	var rows [][]api.Cell
	for _, c := range l {
		if c.Null && !cols[i].Null {
			return nil, api.ErrText
		}
		rows = append(rows, []api.Cell{c})
	}
	if zoneByRule(rows, 0) != f.Chunks[i].Zone {
		return nil, api.ErrText
	}
	return l, api.OK
}

// rowsByRule is what Rows answers.
func rowsByRule(cols []api.Col, b []byte, foot int) ([][]api.Cell, api.Errno) {
	if foot < 0 || foot > len(b) {
		return nil, api.ErrText
	}
	f, err := readByRule(cols, b[len(b)-foot:], len(b))
	if err != api.OK {
		return nil, err
	}
	rows := make([][]api.Cell, f.Rows)
	for i, c := range f.Chunks {
		l, err := columnByRule(cols, f, i, b[c.Off:c.Off+c.Len])
		if err != api.OK {
			return nil, err
		}
		for at := range rows {
			rows[at] = append(rows[at], l[at])
		}
	}
	return rows, api.OK
}

// wantRead is that Read answers what the rule says.
func wantRead(t *testing.T, cols []api.Col, b []byte, size int) api.Errno {
	t.Helper()
	got, err := seg.Read(cols, b, size)
	want, fault := readByRule(cols, b, size)
	if !sameFoot(got, want) || err != fault {
		t.Fatalf("Read(%+v, % x, %d) = %+v, %v, want %+v, %v", cols, told(b), size, got, err, want, fault)
	}
	return err
}

// wantColumn is that Column answers what the rule says.
func wantColumn(t *testing.T, cols []api.Col, f seg.Foot, i int, b []byte) api.Errno {
	t.Helper()
	got, err := seg.Column(cols, f, i, b)
	want, fault := columnByRule(cols, f, i, b)
	if !slices.Equal(got, want) || err != fault {
		t.Fatalf("Column(%+v, %+v, %d, % x) = %+v, %v, want %+v, %v", cols, f, i, told(b), got, err, want, fault)
	}
	return err
}

// wantRows is that Rows answers what the rule says.
func wantRows(t *testing.T, cols []api.Col, b []byte, foot int) api.Errno {
	t.Helper()
	got, err := seg.Rows(cols, b, foot)
	want, fault := rowsByRule(cols, b, foot)
	if !sameRows(got, want) || err != fault {
		t.Fatalf("Rows(%+v, % x, %d) = %d rows, %v, want %d, %v", cols, told(b), foot, len(got), err, len(want), fault)
	}
	return err
}

// hex is the bytes that are told so.
func hex(t *testing.T, text string) []byte {
	t.Helper()
	var b []byte
	for _, two := range strings.Fields(text) {
		c, err := strconv.ParseUint(two, 16, 8)
		if err != nil {
			t.Fatal(err)
		}
		b = append(b, byte(c))
	}
	return b
}

func TestBuildKnown(t *testing.T) { // P13.1
	for _, c := range []struct {
		cols   []api.Col
		rows   [][]api.Cell
		chunks []string // ahead of their being laid in frames
		foot   string   // the same
	}{
		{[]api.Col{col("a", api.TyInt)}, [][]api.Cell{{n(7)}}, []string{"01 0e"}, "01 07 01 00 01 0e 01 0e"},
		{[]api.Col{open("a", api.TyInt)}, [][]api.Cell{{null}}, []string{"09 01"}, "01 07 01 01"},
		{[]api.Col{col("a", api.TyInt)}, [][]api.Cell{{n(7)}, {n(7)}, {n(7)}}, []string{"02 02 0e"}, "03 08 03 00 01 0e 01 0e"},
		{[]api.Col{open("a", api.TyInt)}, [][]api.Cell{{n(3)}, {null}, {n(-1)}}, []string{"09 02 06 01"}, "03 09 03 01 01 01 01 06"},
		{[]api.Col{col("a", api.TyInt), open("b", api.TyText)}, [][]api.Cell{{n(1), s("x")}, {n(2), null}}, []string{"01 02 04", "0d 02 01 78"}, "02 08 02 00 01 02 01 04 09 02 01 01 01 78 01 01 78"},
		{[]api.Col{open("b", api.TyText), col("a", api.TyInt)}, [][]api.Cell{{s("x"), n(1)}, {null, n(2)}}, []string{"0d 02 01 78", "01 02 04"}, "02 09 02 01 01 01 78 01 01 78 08 02 00 01 02 01 04"},
		{[]api.Col{col("c", api.TyBool), col("a", api.TyBool)}, [][]api.Cell{{n(0), n(1)}}, []string{"01 00", "01 02"}, "01 07 01 00 01 00 01 00 07 01 00 01 02 01 02"},
	} {
		var want []byte
		for _, text := range c.chunks {
			want = append(want, laid(hex(t, text))...)
		}
		footer := laid(hex(t, c.foot))
		want = append(want, footer...)
		got, foot, err := seg.Build(c.cols, c.rows)
		if !bytes.Equal(got, want) || foot != len(footer) || err != api.OK {
			t.Errorf("Build(%+v, %+v) = % x, %d, %v, want % x, %d", c.cols, c.rows, got, foot, err, want, len(footer))
		}
	}
	b, foot, err := seg.Build([]api.Col{col("a", api.TyInt)}, [][]api.Cell{{n(7)}})
	if want := hex(t, "02 82 50 bb 4e 01 0e 08 07 51 be bc 01 07 01 00 01 0e 01 0e"); !bytes.Equal(b, want) || foot != 13 || err != api.OK {
		t.Errorf("Build of one column and one row = % x, %d, %v, want % x", b, foot, err, want)
	}
}

func TestBuildByRule(t *testing.T) { // P13.1
	for _, x := range good() {
		got, foot, err := seg.Build(x.cols, x.rows)
		want, footer := x.whole()
		if !bytes.Equal(got, want) || foot != footer || err != api.OK {
			t.Errorf("Build(%+v, of %d rows) = %d bytes, %d, %v, want %d, %d", x.cols, len(x.rows), len(got), foot, err, len(want), footer)
		}
	}
}

// wantNoBuild is that Build answers that error, and nothing else.
func wantNoBuild(t *testing.T, cols []api.Col, rows [][]api.Cell, want api.Errno) {
	t.Helper()
	if b, foot, err := seg.Build(cols, rows); len(b) != 0 || foot != 0 || err != want {
		t.Errorf("Build(%d columns %+v, of %d rows) = %d bytes, %d, %v, want %v", len(cols), cols[:min(len(cols), 7)], len(rows), len(b), foot, err, want)
	}
}

func TestBuildErrors(t *testing.T) { // P13.1
	for _, cols := range badCols() {
		for _, rows := range []int{0, 1, 2, 200, 201, 1000} {
			wantNoBuild(t, cols, rowsOf(cols, rows, 5), api.ErrArg)
			wantNoBuild(t, cols, slices.Repeat([][]api.Cell{nil}, rows), api.ErrArg)
			wantNoBuild(t, cols, slices.Repeat([][]api.Cell{{n(1)}}, rows), api.ErrArg)
		}
	}
	for size := 1; size <= api.MaxCols; size++ {
		cols := many(size)
		wantNoBuild(t, cols, nil, api.ErrArg)
		wantNoBuild(t, cols, [][]api.Cell{}, api.ErrArg)
		for _, rows := range []int{201, 202, 256, 456, 4096, 5000} {
			wantNoBuild(t, cols, rowsOf(cols, rows, 5), api.ErrMany)
			wantNoBuild(t, cols, slices.Repeat([][]api.Cell{nil}, rows), api.ErrMany) // though no row may be
			wantNoBuild(t, cols, slices.Repeat([][]api.Cell{{s("a"), s("a")}}, rows), api.ErrMany)
		}
		for _, row := range [][]api.Cell{nil, {}, make([]api.Cell, size-1), make([]api.Cell, size+1)} {
			wantNoBuild(t, cols, [][]api.Cell{row}, api.ErrType)
			wantNoBuild(t, cols, slices.Repeat([][]api.Cell{row}, 200), api.ErrType)
		}
	}
}

func TestBuildOfRowsThatMayNotBe(t *testing.T) { // P13.1: whichever row it is, and whichever of its cells
	cols := many(6)
	for _, size := range []int{1, 2, 9, 200} {
		for _, at := range []int{0, size / 2, size - 1} {
			for i, c := range cols {
				for _, cell := range []api.Cell{null, n(2), n(1), s("a"), s(strings.Repeat("x", 41)), {I: 1, S: "a"}, {Null: true, I: 1}, {Null: true, S: "a"}} {
					rows := rowsOf(cols, size, 3)
					rows[at][i] = cell
					if schema.Row(cols, rows[at]) {
						if b, _, err := seg.Build(cols, rows); len(b) == 0 || err != api.OK {
							t.Errorf("Build with %+v in a column %+v = %v", cell, c, err)
						}
						continue
					}
					wantNoBuild(t, cols, rows, api.ErrType)
				}
			}
		}
	}
}

func TestReadKnown(t *testing.T) { // P13.2
	cols := []api.Col{col("a", api.TyInt), open("b", api.TyText)}
	footer := laid(hex(t, "02 08 02 00 01 02 01 04 09 02 01 01 01 78 01 01 78"))
	want := seg.Foot{Rows: 2, Chunks: []api.Chunk{
		{Off: 0, Len: 8, Zone: api.Zone{Rows: 2, Low: n(1), High: n(2)}},
		{Off: 8, Len: 9, Zone: api.Zone{Rows: 2, Nulls: 1, Low: s("x"), High: s("x")}},
	}}
	if got, err := seg.Read(cols, footer, 17+len(footer)); !sameFoot(got, want) || err != api.OK {
		t.Errorf("Read = %+v, %v, want %+v", got, err, want)
	}
	for _, x := range good() {
		b, foot := x.whole()
		if got, err := seg.Read(x.cols, b[len(b)-foot:], len(b)); !sameFoot(got, x.foot()) || err != api.OK {
			t.Errorf("Read of %+v = %+v, %v, want %+v", x.cols, got, err, x.foot())
		}
	}
}

func TestReadSizes(t *testing.T) { // P13.2: the chunks and b have size bytes together
	for _, x := range short() {
		b, foot := x.whole()
		footer := b[len(b)-foot:]
		for size := range len(b) + 300 {
			if err := wantRead(t, x.cols, footer, size); (err == api.OK) != (size == len(b)) || err != api.OK && err != api.ErrText {
				t.Errorf("Read of size %d = %v, of a segment of %d", size, err, len(b))
			}
		}
		for _, size := range []int{-1, -len(b), math.MinInt, math.MinInt + len(b), math.MaxInt, len(b) + 1<<32, len(b) - 1<<32, len(b) + 1<<62, len(b) - foot, foot, 1 << 20} {
			if err := wantRead(t, x.cols, footer, size); err != api.ErrText {
				t.Errorf("Read of size %d = %v, of a segment of %d", size, err, len(b))
			}
		}
	}
}

func TestReadWrongFooters(t *testing.T) { // P13.2
	cols := []api.Col{open("a", api.TyInt), col("b", api.TyBool)}
	for _, c := range []struct {
		says string
		size int // of the chunks
		want api.Errno
	}{
		{"02 07 02 01 01 02 01 02 08 02 00 01 00 01 02", 15, api.OK},
		{"02 07 02 00 01 02 01 04 08 02 00 01 00 01 02", 15, api.OK},
		{"02 07 02 02 08 02 00 01 00 01 02", 15, api.OK},
		{"02 07 02 02 08 02 02", 15, api.OK},                                   // all null, though b's cells are not: a zone that may be
		{"02 00 02 02 00 02 02", 0, api.OK},                                    // no least Len is named
		{"02 80 80 40 02 02 00 02 02", 1 << 20, api.OK},                        // the greatest Len
		{"02 80 80 40 02 02 80 80 40 02 02", 1 << 21, api.OK},                  // the same twice
		{"02 81 80 40 02 02 00 02 02", 1<<20 + 1, api.ErrText},                 // above it
		{"02 00 02 02 81 80 40 02 02", 1<<20 + 1, api.ErrText},                 // the same behind
		{"02 ff ff ff ff ff ff ff ff ff 01 02 02 08 02 02", 7, api.ErrText},    // -1, as an int
		{"02 80 80 80 80 10 02 02 08 02 02", 8, api.ErrText},                   // 2^32: 0, in few bits
		{"02 87 80 80 80 10 02 02 08 02 02", 15, api.ErrText},                  // 2^32 and 7
		{"c8 01 07 c8 01 c8 01 08 c8 01 c8 01", 15, api.OK},                    // 200 rows
		{"c9 01 07 c9 01 c9 01 08 c9 01 c9 01", 15, api.ErrText},               // 201
		{"80 20 07 80 20 80 20 08 80 20 80 20", 15, api.ErrText},               // 4096
		{"00 07 00 00 08 00 00", 15, api.ErrText},                              // none
		{"01 07 00 00 08 01 01", 15, api.ErrText},                              // a zone of fewer rows
		{"01 07 01 01 08 00 00", 15, api.ErrText},                              // the same behind
		{"01 07 02 02 08 01 01", 15, api.ErrText},                              // of more
		{"01 07 01 01 08 02 02", 15, api.ErrText},                              // the same behind
		{"02 07 01 01 08 01 01", 15, api.ErrText},                              // both
		{"02 07 02 03 08 02 02", 15, api.ErrText},                              // more nulls than rows
		{"02 07 02 01 01 04 01 02 08 02 02", 15, api.ErrText},                  // High is ahead of Low
		{"02 07 02 01 00 00 08 02 02", 15, api.ErrText},                        // a bound that is null
		{"02 07 02 02 08 02 00 01 00 01 04", 15, api.ErrText},                  // a bound that is no truth
		{"02 07 02 02 08 02 02 00", 15, api.ErrText},                           // something is left
		{"02 07 02 02 08 02 02 08 02 02", 23, api.ErrText},                     // a column too many
		{"02 07 02 02", 7, api.ErrText},                                        // one too few
		{"02 07 02 02 08 02", 15, api.ErrText},                                 // cut
		{"02 07 02 02 08", 15, api.ErrText},                                    // the same
		{"02 07 02", 7, api.ErrText},                                           // the same
		{"02 07", 7, api.ErrText},                                              // the same
		{"02", 0, api.ErrText},                                                 // the same
		{"", 0, api.ErrText},                                                   // the same
		{"82 00 07 02 02 08 02 02", 15, api.ErrText},                           // not a number's one form
		{"02 87 00 02 02 08 02 02", 15, api.ErrText},                           // the same
		{"02 07 02 02 08 02 02", 14, api.ErrText},                              // the size is another one
		{"02 07 02 02 08 02 02", 16, api.ErrText},                              // the same
		{"02 07 02 02 08 02 02", 7, api.ErrText},                               // the first chunk's alone
		{"02 07 02 02 08 02 02", 8, api.ErrText},                               // the last chunk's alone
		{"80 80 80 80 80 80 80 80 80 80 01", 0, api.ErrText},                   // no number
		{"82 80 80 80 10 07 02 02 08 02 02", 15, api.ErrText},                  // 2^32 and 2
		{"02 07 82 80 80 80 10 02 08 02 02", 15, api.ErrText},                  // the same, of a zone
		{"02 07 02 82 80 80 80 10 08 02 02", 15, api.ErrText},                  // the same, of its nulls
		{"ff ff ff ff ff ff ff ff ff 01 07 02 02 08 02 02", 15, api.ErrText},   // 2^64 - 1 rows
		{"02 f9 ff ff ff ff ff ff ff ff 01 02 02 0e 02 02", 7, api.ErrText},    // Lens that come to 7, going round
		{"02 80 80 80 80 80 80 80 80 40 02 02 00 02 02", 1 << 62, api.ErrText}, // 2^62
	} {
		b := laid(hex(t, c.says))
		if got := wantRead(t, cols, b, c.size+len(b)); got != c.want {
			t.Errorf("Read of %s = %v, want %v", c.says, got, c.want)
		}
	}
}

func TestReadFirstError(t *testing.T) { // P13.2: the columns, then the frame's error, then the rest
	x := short()[0]
	b, foot := x.whole()
	footer := b[len(b)-foot:]
	turned := bytes.Clone(footer)
	turned[foot-1] ^= 1
	for _, c := range []struct {
		b    []byte
		size int
		want api.Errno
	}{
		{footer, len(b), api.OK},
		{nil, 0, api.ErrText},
		{nil, len(b), api.ErrText},
		{[]byte{}, 0, api.ErrText},
		{footer[:foot-1], len(b) - 1, api.ErrText},
		{append(bytes.Clone(footer), 0), len(b) + 1, api.ErrText},
		{append(bytes.Clone(footer), 0), len(b), api.ErrText},
		{slices.Concat(footer, footer), len(b) + foot, api.ErrText},
		{turned, len(b), api.ErrCheck},
		{turned, 0, api.ErrCheck},
		{append(bytes.Clone(turned), 0), len(b) + 1, api.ErrCheck},
		{b, len(b), api.ErrText}, // not the footer, but the segment
	} {
		if got := wantRead(t, x.cols, c.b, c.size); got != c.want {
			t.Errorf("Read(% x, %d) = %v, want %v", c.b, c.size, got, c.want)
		}
		for _, cols := range badCols() {
			if got := wantRead(t, cols, c.b, c.size); got != api.ErrArg {
				t.Errorf("Read of columns that may not be, (% x, %d), = %v", c.b, c.size, got)
			}
		}
	}
}

// eachOther tells b with each byte turned, cut off, and put in.
func eachOther(b []byte, tell func([]byte)) {
	for i := range b {
		tell(b[:i])
		tell(b[i:])
		for _, by := range []byte{1, 2, 4, 8, 16, 32, 64, 128, 255} {
			other := bytes.Clone(b)
			other[i] ^= by
			tell(other)
		}
		for _, more := range []byte{0, 1, 2, 0x80, 0xff} {
			tell(slices.Insert(bytes.Clone(b), i, more))
			tell(append(bytes.Clone(b), more))
		}
	}
}

func TestReadOthersByRule(t *testing.T) { // P13.2: footers that are others by a byte, under their own sum, too
	for _, x := range short() {
		b, foot := x.whole()
		ahead, footer := len(b)-foot, b[len(b)-foot:]
		eachOther(footer, func(other []byte) {
			wantRead(t, x.cols, other, ahead+len(other))
		})
		says, _, _ := frame.Get(footer)
		eachOther(says, func(other []byte) {
			f := laid(other)
			for _, size := range []int{ahead + len(f), ahead + len(f) + 1, ahead + len(f) - 1, len(f)} {
				wantRead(t, x.cols, f, size)
			}
		})
	}
}

func TestReadOfOtherColumns(t *testing.T) { // P13.2
	all := short()
	for _, x := range all {
		b, foot := x.whole()
		for _, other := range all {
			wantRead(t, other.cols, b[len(b)-foot:], len(b))
			wantRows(t, other.cols, b, foot)
		}
	}
}

func TestColumnKnown(t *testing.T) { // P13.3
	cols := []api.Col{col("a", api.TyInt), open("b", api.TyText), col("c", api.TyBool)}
	f := seg.Foot{Rows: 2, Chunks: []api.Chunk{
		{Zone: api.Zone{Rows: 2, Low: n(1), High: n(2)}},
		{Zone: api.Zone{Rows: 2, Nulls: 1, Low: s("x"), High: s("x")}},
		{Zone: api.Zone{Rows: 2, Nulls: 2}},
	}}
	for _, c := range []struct {
		i    int
		b    string
		want []api.Cell
		err  api.Errno
	}{
		{0, "01 02 04", []api.Cell{n(1), n(2)}, api.OK},
		{0, "01 04 02", []api.Cell{n(2), n(1)}, api.OK}, // the same zone
		{0, "03 02 02", []api.Cell{n(1), n(2)}, api.OK}, // in another way
		{0, "01 02 06", nil, api.ErrText},               // another zone
		{0, "01 00 04", nil, api.ErrText},               // the same
		{0, "01 02", nil, api.ErrText},                  // fewer cells
		{0, "01 02 04 04", nil, api.ErrText},            // more
		{0, "09 01 04", nil, api.ErrText},               // one is null
		{0, "05 01 78", nil, api.ErrText},               // another type
		{0, "", nil, api.ErrText},                       // no chunk
		{1, "0d 02 01 78", []api.Cell{s("x"), null}, api.OK},
		{1, "0d 01 01 78", []api.Cell{null, s("x")}, api.OK},
		{1, "05 01 78 01 78", nil, api.ErrText}, // none is null
		{1, "0d 03", nil, api.ErrText},          // both are
		{1, "0d 02 01 79", nil, api.ErrText},    // another zone
		{2, "09 03", nil, api.ErrText},          // c has no null
		{2, "01 00 02", nil, api.ErrText},       // another zone
		{-1, "01 02 04", nil, api.ErrArg},
		{3, "01 02 04", nil, api.ErrArg},
		{4, "01 02 04", nil, api.ErrArg},
		{math.MaxInt, "01 02 04", nil, api.ErrArg},
		{math.MinInt, "01 02 04", nil, api.ErrArg},
	} {
		b := laid(hex(t, c.b))
		if got, err := seg.Column(cols, f, c.i, b); !slices.Equal(got, c.want) || err != c.err {
			t.Errorf("Column(%d, %s) = %+v, %v, want %+v, %v", c.i, c.b, got, err, c.want, c.err)
		}
		wantColumn(t, cols, f, c.i, b)
	}
}

func TestColumnByItsBytesAlone(t *testing.T) { // P13.4
	for _, x := range good() {
		b, foot, _ := seg.Build(x.cols, x.rows)
		f, err := seg.Read(x.cols, b[len(b)-foot:], len(b))
		if err != api.OK || len(f.Chunks) != len(x.cols) {
			t.Fatalf("Read of what is built = %+v, %v", f, err)
		}
		for i, c := range f.Chunks {
			got, err := seg.Column(x.cols, f, i, bytes.Clone(b[c.Off:c.Off+c.Len]))
			if err != api.OK || len(got) != len(x.rows) {
				t.Fatalf("Column(%+v, %d) = %d cells, %v", x.cols, i, len(got), err)
			}
			for at, row := range x.rows {
				if got[at] != row[i] {
					t.Errorf("Column(%+v, %d) has %+v in the place of %+v", x.cols, i, got[at], row[i])
				}
			}
		}
	}
}

func TestColumnFirstError(t *testing.T) { // P13.3: the place, then the frame's error, then the rest
	x := segment{many(3), rowsOf(many(3), 5, 1)}
	f := x.foot()
	frames, _ := x.chunks()
	none := []seg.Foot{{}, {Rows: 5}, {Rows: 5, Chunks: []api.Chunk{}}}
	for i, b := range frames {
		turned := bytes.Clone(b)
		turned[len(b)-1] ^= 1
		for _, c := range []struct {
			b    []byte
			want api.Errno
		}{
			{b, api.OK},
			{nil, api.ErrText},
			{b[:len(b)-1], api.ErrText},
			{b[1:], api.ErrText},
			{append(bytes.Clone(b), 0), api.ErrText},
			{slices.Concat(b, b), api.ErrText},
			{turned, api.ErrCheck},
			{append(bytes.Clone(turned), 0), api.ErrCheck},
			{laid([]byte{}), api.ErrText},
		} {
			if got := wantColumn(t, x.cols, f, i, c.b); got != c.want {
				t.Errorf("Column(%d, % x) = %v, want %v", i, c.b, got, c.want)
			}
			if got := wantColumn(t, x.cols, seg.Foot{Rows: f.Rows + 1, Chunks: f.Chunks}, i, c.b); got != c.want && c.want != api.OK || got == api.OK {
				t.Errorf("Column(%d, % x), of another footer, = %v", i, c.b, got)
			}
			for _, at := range []int{-1, -3, 3, 4, 1 << 32, -1 << 32, math.MaxInt, math.MinInt} {
				if got := wantColumn(t, x.cols, f, at, c.b); got != api.ErrArg {
					t.Errorf("Column(%d, % x) = %v", at, c.b, got)
				}
			}
			if got := wantColumn(t, x.cols[:i], f, i, c.b); got != api.ErrArg { // a chunk, and no column
				t.Errorf("Column(%d, % x) of %d columns = %v", i, c.b, i, got)
			}
			if got := wantColumn(t, x.cols, seg.Foot{Rows: f.Rows, Chunks: f.Chunks[:i]}, i, c.b); got != api.ErrArg { // a column, and no chunk
				t.Errorf("Column(%d, % x) of %d chunks = %v", i, c.b, i, got)
			}
			if got := wantColumn(t, x.cols[:i+1], f, i, c.b); got != c.want { // more chunks than columns
				t.Errorf("Column(%d, % x) of %d columns = %v", i, c.b, i+1, got)
			}
			if got := wantColumn(t, x.cols, seg.Foot{Rows: f.Rows, Chunks: f.Chunks[:i+1]}, i, c.b); got != c.want { // fewer
				t.Errorf("Column(%d, % x) of %d chunks = %v", i, c.b, i+1, got)
			}
			for _, empty := range none {
				if got := wantColumn(t, x.cols, empty, i, c.b); got != api.ErrArg {
					t.Errorf("Column(%d, % x) of no chunks = %v", i, c.b, got)
				}
				if got := wantColumn(t, nil, empty, i, c.b); got != api.ErrArg {
					t.Errorf("Column(%d, % x) of nothing = %v", i, c.b, got)
				}
			}
		}
	}
}

func TestColumnOfOtherFooters(t *testing.T) { // P13.3: not Rows cells, or not of the zone that f says
	for _, x := range short() {
		frames, _ := x.chunks()
		for i, b := range frames {
			for _, rows := range []int{0, 1, len(x.rows) - 1, len(x.rows) + 1, 200, 201, 4096, 4097, -1, math.MaxInt, math.MinInt} {
				f := x.foot()
				f.Rows = rows
				if got := wantColumn(t, x.cols, f, i, b); (got == api.OK) != (rows == len(x.rows)) {
					t.Errorf("Column(%d) of %d rows, with a footer of %d, = %v", i, len(x.rows), rows, got)
				}
			}
			is := x.foot().Chunks[i].Zone
			for _, turn := range []func(*api.Zone){
				func(z *api.Zone) { z.Rows++ },
				func(z *api.Zone) { z.Rows-- },
				func(z *api.Zone) { z.Nulls++ },
				func(z *api.Zone) { z.Nulls-- },
				func(z *api.Zone) { z.Low.I-- },
				func(z *api.Zone) { z.Low.S += "a" },
				func(z *api.Zone) { z.Low.Null = true },
				func(z *api.Zone) { z.High.I++ },
				func(z *api.Zone) { z.High.S += "a" },
				func(z *api.Zone) { z.High.Null = true },
				func(z *api.Zone) { *z = api.Zone{} },
			} {
				f := x.foot()
				turn(&f.Chunks[i].Zone)
				if got := wantColumn(t, x.cols, f, i, b); got != api.ErrText {
					t.Errorf("Column(%d) with a zone %+v for %+v = %v", i, f.Chunks[i].Zone, is, got)
				}
			}
		}
	}
}

func TestColumnOfBareFooters(t *testing.T) { // P13.3: what it asks is the place, the cells and the zone, nothing else
	f := seg.Foot{Rows: 0, Chunks: []api.Chunk{{Off: -5, Len: -7}}}
	for _, c := range []api.Col{open("A", api.TyInt), col("", api.TyBool)} {
		if got, err := seg.Column([]api.Col{c}, f, 0, laid([]byte{1})); len(got) != 0 || err != api.OK {
			t.Errorf("Column of no cells = %+v, %v", got, err)
		}
	}
	big := seg.Foot{Rows: 4096, Chunks: make([]api.Chunk, 9)}
	big.Chunks[8].Zone = api.Zone{Rows: 4096, Low: n(3), High: n(3)}
	l := slices.Repeat([]api.Cell{n(3)}, 4096)
	if got, err := seg.Column(slices.Repeat([]api.Col{col("a", api.TyInt)}, 9), big, 8, laid(chunk.Put(api.TyInt, l))); !slices.Equal(got, l) || err != api.OK {
		t.Errorf("Column of MaxList cells = %d cells, %v", len(got), err)
	}
	for _, ty := range []int{0, -1, 4, 1<<32 + 1} {
		if got, err := seg.Column([]api.Col{open("a", ty)}, f, 0, laid([]byte{1})); len(got) != 0 || err != api.ErrText {
			t.Errorf("Column of no type = %+v, %v", got, err)
		}
	}
}

func TestColumnNulls(t *testing.T) { // P13.3: null where the column has none, though f says it
	for _, ty := range []int{api.TyInt, api.TyBool, api.TyText} {
		one := api.Cell{}
		for _, l := range [][]api.Cell{{null}, {null, null}, {one, null}, {null, one}, {one, one, one, null, one}} {
			f := seg.Foot{Rows: len(l), Chunks: []api.Chunk{{Zone: zone.Of(l)}}}
			b := laid(chunk.Put(ty, l))
			if got, err := seg.Column([]api.Col{open("a", ty)}, f, 0, b); !slices.Equal(got, l) || err != api.OK {
				t.Errorf("Column of %+v = %+v, %v", l, got, err)
			}
			if got, err := seg.Column([]api.Col{col("a", ty)}, f, 0, b); len(got) != 0 || err != api.ErrText {
				t.Errorf("Column of %+v, without null, = %+v, %v", l, got, err)
			}
		}
	}
}

func TestColumnOthersByRule(t *testing.T) { // P13.3: chunks that are others by a byte, under their own sum, too
	for _, x := range short() {
		f := x.foot()
		frames, _ := x.chunks()
		for i, b := range frames {
			eachOther(b, func(other []byte) {
				wantColumn(t, x.cols, f, i, other)
			})
			says, _, _ := frame.Get(b)
			eachOther(says, func(other []byte) {
				wantColumn(t, x.cols, f, i, laid(other))
			})
			for at := range frames {
				wantColumn(t, x.cols, f, at, b)
			}
		}
	}
}

func TestWhatIsBuiltIsRead(t *testing.T) { // P13.3, P13.4
	for _, x := range good() {
		b, foot, err := seg.Build(x.cols, x.rows)
		if err != api.OK {
			t.Fatalf("Build = %v", err)
		}
		if got, err := seg.Rows(x.cols, b, foot); !sameRows(got, x.rows) || err != api.OK {
			t.Errorf("Rows of %+v = %d rows, %v, want %d", x.cols, len(got), err, len(x.rows))
		}
	}
}

func TestRowsOfOtherFoots(t *testing.T) { // P13.3
	for _, x := range short() {
		b, foot := x.whole()
		for other := -3; other < len(b)+3; other++ {
			if err := wantRows(t, x.cols, b, other); (err == api.OK) != (other == foot) {
				t.Errorf("Rows of a footer of %d bytes, not %d, = %v", other, foot, err)
			}
		}
		for _, other := range []int{-1, -foot, len(b) + 1, foot + 1<<32, foot - 1<<32, math.MaxInt, math.MinInt, math.MinInt + foot} {
			for _, cols := range append(badCols(), x.cols) {
				if got, err := seg.Rows(cols, b, other); len(got) != 0 || err != api.ErrText { // ahead of the columns
					t.Errorf("Rows of a footer of %d bytes = %v", other, err)
				}
			}
		}
		for _, other := range []int{0, 1, foot, len(b)} {
			for _, cols := range badCols() {
				if got, err := seg.Rows(cols, b, other); len(got) != 0 || err != api.ErrArg {
					t.Errorf("Rows of columns that may not be = %v", err)
				}
			}
		}
	}
	for _, foot := range []int{-1, 0, 1} {
		if got, err := seg.Rows(many(1), nil, foot); len(got) != 0 || err != api.ErrText {
			t.Errorf("Rows of no bytes = %v", err)
		}
	}
}

func TestRowsOthersByRule(t *testing.T) { // P13.3: segments that are others by a byte
	for _, x := range short() {
		b, foot := x.whole()
		for i := range b {
			for _, by := range []byte{1, 2, 4, 8, 16, 32, 64, 128, 255} {
				other := bytes.Clone(b)
				other[i] ^= by
				if err := wantRows(t, x.cols, other, foot); err == api.OK {
					t.Fatalf("a byte was turned, and Rows is OK")
				}
			}
			if err := wantRows(t, x.cols, slices.Delete(bytes.Clone(b), i, i+1), foot); err == api.OK {
				t.Fatalf("a byte was cut out, and Rows is OK")
			}
			for _, more := range []byte{0, 1, 0xff} {
				if err := wantRows(t, x.cols, slices.Insert(bytes.Clone(b), i, more), foot); err == api.OK {
					t.Fatalf("a byte was put in, and Rows is OK")
				}
			}
			wantRows(t, x.cols, b[:i], foot)
			wantRows(t, x.cols, b[i:], foot)
		}
	}
}

// twoChunks is a segment of two numbers in a and b, one row, whose chunks' frames, and what the footer says of their sizes, are handed in.
func twoChunks(first, second []byte, sizes ...int) ([]byte, int) {
	z := api.Zone{Rows: 1, Low: n(7), High: n(7)}
	cols := []api.Col{col("a", api.TyInt), col("b", api.TyInt)}
	footer := laid(footByRule(1, cols, sizes, []api.Zone{z, z}))
	return slices.Concat(first, second, footer), len(footer)
}

func TestRowsFirstError(t *testing.T) { // P13.3: Column's error, of the first column that has one
	cols := []api.Col{col("a", api.TyInt), col("b", api.TyInt)}
	is := laid([]byte{1, 14})
	text := laid([]byte{1, 16}) // another zone
	check := bytes.Clone(is)
	check[6] ^= 1
	for _, c := range []struct {
		first, second []byte
		sizes         []int
		want          api.Errno
	}{
		{is, is, []int{7, 7}, api.OK},
		{is, text, []int{7, 7}, api.ErrText},
		{is, check, []int{7, 7}, api.ErrCheck},
		{text, is, []int{7, 7}, api.ErrText},
		{check, is, []int{7, 7}, api.ErrCheck},
		{text, check, []int{7, 7}, api.ErrText},
		{check, text, []int{7, 7}, api.ErrCheck},
		{is, is, []int{6, 8}, api.ErrText},
		{is, is, []int{8, 6}, api.ErrText},
		{is, is, []int{14, 0}, api.ErrText},
		{is, is, []int{0, 14}, api.ErrText},
		{is, is, []int{7, 6}, api.ErrText},
		{is, is, []int{7, 8}, api.ErrText},
		{check, is, []int{7, 8}, api.ErrText}, // Read's error is ahead
		{is, laid([]byte{9, 1}), []int{7, 7}, api.ErrText},
		{is, laid([]byte{2, 0, 14}), []int{7, 8}, api.OK}, // in another way
		{laid([]byte{3, 14}), is, []int{7, 7}, api.OK},    // the same
	} {
		b, foot := twoChunks(c.first, c.second, c.sizes...)
		if got := wantRows(t, cols, b, foot); got != c.want {
			t.Errorf("Rows of % x = %v, want %v", b, got, c.want)
		}
	}
}

// spoil makes all of b's bytes others, also behind its end.
func spoil(b []byte) {
	b = b[:cap(b)]
	for i := range b {
		b[i] ^= 0xff
	}
}

func TestNothingIsChangedOrKept(t *testing.T) { // rules 3 and 4
	for _, x := range short() {
		want, foot := x.whole()
		cols, rows := slices.Clone(x.cols), make([][]api.Cell, len(x.rows))
		for i, row := range x.rows {
			rows[i] = slices.Clone(row)
		}
		b, _, _ := seg.Build(cols, rows)
		if !slices.Equal(cols, x.cols) || !sameRows(rows, x.rows) {
			t.Fatal("Build changed what it was handed")
		}
		again, _, _ := seg.Build(cols, rows)
		spoil(again)
		clear(cols)
		for _, row := range rows {
			clear(row)
		}
		if !bytes.Equal(b, want) {
			t.Fatal("Build shares its bytes")
		}
		f, _ := seg.Read(x.cols, b[len(b)-foot:], len(b))
		got, _ := seg.Rows(x.cols, b, foot)
		c := f.Chunks[0]
		l, _ := seg.Column(x.cols, f, 0, b[c.Off:c.Off+c.Len])
		if !bytes.Equal(b, want) || !sameFoot(f, x.foot()) {
			t.Fatal("Read, Rows or Column changed what it was handed")
		}
		spoil(b)
		clear(f.Chunks[:cap(f.Chunks)])
		if !sameRows(got, x.rows) || len(l) != len(x.rows) || l[0] != x.rows[0][0] {
			t.Fatal("Rows or Column shares its cells")
		}
		if f, _ := seg.Read(x.cols, want[len(want)-foot:], len(want)); !sameFoot(f, x.foot()) {
			t.Fatal("Read shares its chunks")
		}
	}
}

func TestRowsShareNothing(t *testing.T) { // rule 3: no row of an answer is a piece of another
	for _, x := range good() {
		b, foot := x.whole()
		got, _ := seg.Rows(x.cols, b, foot)
		for at := range got {
			row := got[at]
			clear(row[:cap(row)])
			got[at] = slices.Clone(x.rows[at])
			if !sameRows(got, x.rows) {
				t.Fatalf("row %d of %d shares its cells with another one", at, len(got))
			}
		}
	}
}
