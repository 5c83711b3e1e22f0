package frame_test

import (
	"bytes"
	"encoding/binary"
	"hash/crc32"
	"math"
	"slices"
	"testing"

	"firkin/api"
	"firkin/frame"
)

// byRule is b's frame as the chapter says it, by the library's numbers and sums.
func byRule(b []byte) []byte {
	f := binary.AppendUvarint(nil, uint64(len(b)))
	f = binary.LittleEndian.AppendUint32(f, crc32.Checksum(b, crc32.MakeTable(crc32.Castagnoli)))
	return append(f, b...)
}

// some is n bytes, drawn by a rule of their place.
func some(n int) []byte {
	b := make([]byte, n)
	state := uint32(n)*2654435761 + 12345
	for i := range b {
		state = state*1664525 + 1013904223
		b[i] = byte(state >> 24)
	}
	return b
}

// bodies is bytes of many sizes, those at which the number needs a byte more, and the greatest, among them.
func bodies() [][]byte {
	l := [][]byte{nil, {}, {0}, {0xff}, []byte("123456789"), bytes.Repeat([]byte{0}, 40), bytes.Repeat([]byte{0xff}, 40)}
	for _, n := range []int{2, 3, 4, 5, 63, 64, 126, 127, 128, 129, 192, 300, 16383, 16384, 16385, api.MaxObject - 1, api.MaxObject} {
		l = append(l, some(n))
	}
	return l
}

// wantGot is whether Get of b is the bytes and the size that are named.
func wantGot(t *testing.T, b, body []byte, size int) {
	t.Helper()
	got, n, err := frame.Get(b)
	if err != api.OK || n != size || !bytes.Equal(got, body) {
		t.Fatalf("Get of %d bytes: %d bytes, size %d, error %d, want %d bytes, size %d", len(b), len(got), n, err, len(body), size)
	}
}

// wantNone is whether b begins with no frame, with the error that is named.
func wantNone(t *testing.T, what string, b []byte, want api.Errno) {
	t.Helper()
	got, n, err := frame.Get(b)
	if err != want || n != 0 || len(got) != 0 {
		t.Fatalf("%s: Get of %d bytes: %d bytes, size %d, error %d, want error %d alone", what, len(b), len(got), n, err, want)
	}
	all, n := frame.All(b)
	if len(all) != 0 || n != 0 {
		t.Fatalf("%s: All of %d bytes: %d frames of %d bytes, want none", what, len(b), len(all), n)
	}
}

func TestKnownFrames(t *testing.T) { // P3.1
	for _, c := range []struct {
		b, want []byte
	}{
		{nil, []byte{0, 0, 0, 0, 0}},
		{[]byte{}, []byte{0, 0, 0, 0, 0}},
		{[]byte{0}, []byte{1, 0x51, 0x53, 0x7d, 0x52, 0}},
		{[]byte("a"), []byte{1, 0x30, 0x43, 0xd0, 0xc1, 'a'}},
		{[]byte("123456789"), append([]byte{9, 0x83, 0x92, 0x06, 0xe3}, "123456789"...)},
	} {
		if got := frame.Put(c.b); !bytes.Equal(got, c.want) {
			t.Errorf("Put(% x) = % x, want % x", c.b, got, c.want)
		}
		wantGot(t, c.want, c.b, len(c.want))
	}
}

func TestPutByRule(t *testing.T) { // P3.1
	for _, b := range append(bodies(), some(api.MaxObject+1)) {
		if got := frame.Put(b); !bytes.Equal(got, byRule(b)) {
			t.Errorf("Put of %d bytes is another frame than the rule's", len(b))
		}
	}
}

func TestPutIsGot(t *testing.T) { // P3.3
	for _, b := range bodies() {
		f := frame.Put(b)
		wantGot(t, f, b, len(f))
		for _, tail := range [][]byte{{0}, {0xff}, f, some(70)} {
			wantGot(t, slices.Concat(f, tail), b, len(f))
		}
	}
}

func TestNoNumber(t *testing.T) { // P3.1
	zeros := make([]byte, 64)
	for _, c := range []struct {
		what string
		head []byte
	}{
		{"a number without its last byte", []byte{0x80}},
		{"0 in two bytes", []byte{0x80, 0}},
		{"5 in two bytes", []byte{0x85, 0}},
		{"127 in three bytes", []byte{0xff, 0x80, 0}},
		{"2^20 in four bytes", []byte{0x80, 0x80, 0xc0, 0}},
		{"one above MaxObject", binary.AppendUvarint(nil, api.MaxObject+1)},
		{"2^21 - 1", binary.AppendUvarint(nil, 1<<21-1)},
		{"2^21", binary.AppendUvarint(nil, 1<<21)},
		{"2^31", binary.AppendUvarint(nil, 1<<31)},
		{"2^32", binary.AppendUvarint(nil, 1<<32)},
		{"2^63 - 1", binary.AppendUvarint(nil, math.MaxInt64)},
		{"2^63", binary.AppendUvarint(nil, 1<<63)},
		{"2^64 - 4", binary.AppendUvarint(nil, math.MaxUint64-3)},
		{"2^64 - 1", binary.AppendUvarint(nil, math.MaxUint64)},
		{"eleven bytes", bytes.Repeat([]byte{0xff}, 11)},
	} {
		wantNone(t, c.what, c.head, api.ErrText)
		wantNone(t, c.what+", zeros behind it", slices.Concat(c.head, zeros), api.ErrText)
	}
	wantNone(t, "nil", nil, api.ErrText)
	wantNone(t, "no bytes", []byte{}, api.ErrText)
}

func TestTooLongIsNone(t *testing.T) { // P3.1
	wantNone(t, "a frame of more than MaxObject bytes", frame.Put(some(api.MaxObject+1)), api.ErrText)
	wantNone(t, "a frame of 2^21 bytes", byRule(some(1<<21)), api.ErrText)
}

func TestCutIsNone(t *testing.T) { // P3.1
	for _, n := range []int{0, 1, 3, 4, 5, 127, 128, 300} {
		f := frame.Put(some(n))
		for cut := range f {
			wantNone(t, "cut", f[:cut], api.ErrText)
		}
	}
	for _, n := range []int{16384, api.MaxObject} {
		f := frame.Put(some(n))
		for _, cut := range []int{1, 2, 3, 6, 7, len(f) / 2, len(f) - 5, len(f) - 4, len(f) - 1} {
			wantNone(t, "cut", f[:cut], api.ErrText)
		}
	}
}

func TestTextAheadOfCheck(t *testing.T) { // P3.1, rule 2
	wantNone(t, "another sum, and a byte too few", []byte{3, 1, 2, 3, 4, 'a', 'b'}, api.ErrText)
	wantNone(t, "another sum, and as many bytes", []byte{3, 1, 2, 3, 4, 'a', 'b', 'c'}, api.ErrCheck)
	wantNone(t, "another sum of no bytes, and a byte too few", []byte{0, 1, 0, 0}, api.ErrText)
	wantNone(t, "another sum of no bytes", []byte{0, 1, 0, 0, 0}, api.ErrCheck)
}

func TestOtherSums(t *testing.T) { // P3.1
	for _, b := range [][]byte{nil, {0}, []byte("abc"), some(200)} {
		f := frame.Put(b)
		sum := len(f) - len(b) - 4
		for at := sum; at < sum+4; at++ {
			for x := 1; x < 256; x++ {
				f[at] ^= byte(x)
				wantNone(t, "another sum", f, api.ErrCheck)
				f[at] ^= byte(x)
			}
		}
		back := slices.Clone(f)
		slices.Reverse(back[sum : sum+4])
		if len(b) > 0 {
			wantNone(t, "the sum's highest byte first", back, api.ErrCheck)
		}
	}
}

func TestFourNeighboursTurned(t *testing.T) { // P3.3
	kinds := []byte{0, 1, 0x0f, 0x55, 0x80, 0xff}
	n := len(kinds)
	for _, size := range []int{1, 2, 3, 4, 5, 9, 64, 130} {
		f := frame.Put(some(size))
		for at := len(f) - size; at < len(f); at++ {
			turned := f[at:min(at+4, len(f))]
			was := slices.Clone(turned)
			for i := 1; i < n*n*n*n; i++ {
				copy(turned, was)
				for k, by := range []byte{kinds[i%n], kinds[i/n%n], kinds[i/n/n%n], kinds[i/n/n/n]} {
					if k < len(turned) {
						turned[k] ^= by
					}
				}
				if !bytes.Equal(turned, was) {
					wantNone(t, "bytes turned", f, api.ErrCheck)
				}
			}
			copy(turned, was)
		}
		wantGot(t, f, some(size), len(f))
	}
}

func TestOneByteTurned(t *testing.T) { // P3.3
	for _, size := range []int{1, 70, 300} {
		f := frame.Put(some(size))
		for at := len(f) - size; at < len(f); at++ {
			for x := 1; x < 256; x++ {
				f[at] ^= byte(x)
				wantNone(t, "a byte turned", f, api.ErrCheck)
				f[at] ^= byte(x)
			}
		}
	}
}

// laid is the frames of some bodies, one behind the other.
func laid(l ...[]byte) []byte {
	var b []byte
	for _, body := range l {
		b = append(b, frame.Put(body)...)
	}
	return b
}

// wantAll is whether All of b is the bodies that are named, in a frame each, and the size.
func wantAll(t *testing.T, what string, b []byte, want [][]byte, size int) {
	t.Helper()
	got, n := frame.All(b)
	if n != size || !slices.EqualFunc(got, want, bytes.Equal) {
		t.Fatalf("%s: All of %d bytes: %d frames of %d bytes, want %d of %d", what, len(b), len(got), n, len(want), size)
	}
}

func TestAllOfFrames(t *testing.T) { // P3.2
	wantAll(t, "nil", nil, nil, 0)
	wantAll(t, "no bytes", []byte{}, nil, 0)
	wantAll(t, "three of no bytes", make([]byte, 15), [][]byte{nil, nil, nil}, 15)
	wantAll(t, "three of no bytes, and four bytes", make([]byte, 19), [][]byte{nil, nil, nil}, 15)
	wantAll(t, "two bytes' frames", laid([]byte("a"), []byte("b")), [][]byte{[]byte("a"), []byte("b")}, 12)
	l := bodies()
	for i := range l {
		b := laid(l[:i]...)
		wantAll(t, "bodies", b, l[:i], len(b))
	}
	many := make([][]byte, 20000)
	for i := range many {
		many[i] = some(i % 50)
	}
	b := laid(many...)
	wantAll(t, "many", b, many, len(b))
}

func TestAllUpToTheFirstThatIsNone(t *testing.T) { // P3.2
	l := [][]byte{some(5), nil, some(130), some(1)}
	whole := laid(l...)
	for cut := range len(whole) + 1 {
		n, size := 0, 0
		for n < len(l) && size+len(frame.Put(l[n])) <= cut {
			size += len(frame.Put(l[n]))
			n++
		}
		wantAll(t, "cut", whole[:cut], l[:n], size)
	}
	for i := range l {
		size := len(laid(l[:i]...))
		spoilt := slices.Clone(whole)
		spoilt[size+len(frame.Put(l[i]))-len(l[i])-1] ^= 1 // its sum's last byte
		wantAll(t, "another sum", spoilt, l[:i], size)
		wantAll(t, "no number", slices.Concat(whole[:size], []byte{0x80, 0}, whole[size:]), l[:i], size)
		wantAll(t, "too great a number", slices.Concat(whole[:size], []byte{0x81, 0x80, 0x40}, whole[size:]), l[:i], size)
	}
}

func TestAllIsGetOfEach(t *testing.T) { // P3.2
	b := append(laid(bodies()[:15]...), 1, 2, 3, 4, 5, 6)
	all, size := frame.All(b)
	end := 0
	for i, body := range all {
		wantGot(t, b[end:], body, len(frame.Put(all[i])))
		end += len(frame.Put(body))
	}
	if _, _, err := frame.Get(b[end:]); end != size || err == api.OK {
		t.Errorf("the frames have %d bytes, All says %d; behind them error %d", end, size, err)
	}
}

func TestNothingIsSharedOrChanged(t *testing.T) { // rules 3 and 4
	for _, size := range []int{0, 1, 40} {
		body := some(size)
		f := frame.Put(body)
		for i := range f {
			f[i]++
		}
		if !bytes.Equal(body, some(size)) {
			t.Error("a frame shares memory with its bytes")
		}
	}
	b := laid(some(9), some(9), some(9))
	was := slices.Clone(b)
	one, _, _ := frame.Get(b)
	all, _ := frame.All(b)
	for _, l := range append(all, one) {
		l = append(l, 1, 2, 3, 4, 5, 6, 7, 8, 9)
		for i := range l {
			l[i]++
		}
	}
	if !bytes.Equal(b, was) {
		t.Error("what is got shares memory with the frames")
	}
	one, _, _ = frame.Get(b)
	all, _ = frame.All(b)
	clear(b)
	for _, l := range append(all, one) {
		if !bytes.Equal(l, some(9)) {
			t.Error("what is got turns with the frames")
		}
	}
	all, _ = frame.All(laid(some(9), some(9), some(9)))
	clear(all[0][:cap(all[0])])
	if !bytes.Equal(all[1], some(9)) || !bytes.Equal(all[2], some(9)) {
		t.Error("two frames' bytes share memory")
	}
	wide := make([]byte, 20, 100)
	frame.Put(wide)
	if !bytes.Equal(wide[:100], make([]byte, 100)) {
		t.Error("what is behind the bytes that are put is changed")
	}
}
