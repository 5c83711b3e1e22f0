// Package vint is layer 1: numbers and texts as bytes, each in one form alone.
package vint

// A byte has seven bits of a number, and one that says whether another byte follows.
const (
	bits    = 7
	more    = 1 << bits
	longest = 10 // as many bytes as 64 bits need
)

// Num is n as bytes, its lowest bits first.
func Num(n uint64) []byte {
	var b []byte
	for n >= more {
		b = append(b, byte(n)|more)
		n >>= bits
	}
	return append(b, byte(n))
}

// Int is n as bytes; numbers near 0 are short on both sides of it.
func Int(n int64) []byte {
	return Num(uint64(n)<<1 ^ uint64(n>>63))
}

// Text is s as bytes, how many there are ahead of them.
func Text(s string) []byte {
	return join(Num(uint64(len(s))), []byte(s))
}

// join puts parts together, one behind the other.
func join(parts ...[]byte) []byte {
	size := 0
	for _, p := range parts {
		size += len(p)
	}
	b := make([]byte, 0, size)
	for _, p := range parts {
		b = append(b, p...)
	}
	return b
}

// Source is bytes that are read from their beginning on.
type Source struct {
	rest   string // a string, since nobody can change it
	failed bool
}

// From is a source that reads a copy of b.
func From(b []byte) *Source {
	return &Source{rest: string(b)}
}

// Num reads a number.
func (s *Source) Num() uint64 {
	if !s.Ok() {
		return 0
	}
	n, size := first(s.rest)
	if size == 0 {
		s.Fail()
		return 0
	}
	s.rest = s.rest[size:]
	return n
}

// first is the number that b begins with, and how many bytes it has: 0, if there is none.
func first(b string) (uint64, int) {
	var n uint64
	for i := range len(b) {
		c := b[i]
		if i == longest-1 && c > 1 { // one bit of 64 is left for it, and no byte behind it
			return 0, 0
		}
		n |= uint64(c%more) << (bits * i)
		if c == 0 && i > 0 { // the same number has fewer bytes
			return 0, 0
		}
		if c < more {
			return n, i + 1
		}
	}
	return 0, 0
}

// Int reads a number that may be below 0.
func (s *Source) Int() int64 {
	n := s.Num()
	return int64(n>>1) ^ -int64(n&1)
}

// Below reads a number that must be below n.
func (s *Source) Below(n int) int {
	if n <= 0 {
		s.Fail()
		return 0
	}
	return s.most(n - 1)
}

// most reads a number that must be at most n, which may be the greatest int: one more than that is none.
func (s *Source) most(n int) int {
	got := s.Num()
	if n < 0 || got > uint64(n) {
		s.Fail()
		return 0
	}
	return int(got)
}

// Text reads a text that must have at most so many bytes.
func (s *Source) Text(most int) string {
	return s.cut(s.most(most))
}

// Take reads the first n bytes.
func (s *Source) Take(n int) []byte {
	return []byte(s.cut(n))
}

// cut reads the first n bytes as a text.
func (s *Source) cut(n int) string {
	if n < 0 || n > s.Left() {
		s.Fail()
	}
	if !s.Ok() {
		return ""
	}
	b := s.rest[:n]
	s.rest = s.rest[n:]
	return b
}

// Left is how many bytes are left.
func (s *Source) Left() int {
	if s == nil {
		return 0
	}
	return len(s.rest)
}

// Fail makes it a source that failed.
func (s *Source) Fail() {
	if s != nil {
		*s = Source{failed: true}
	}
}

// Ok is whether it did not fail.
func (s *Source) Ok() bool {
	return s != nil && !s.failed
}

// End is whether all was read, and it did not fail.
func (s *Source) End() bool {
	return s.Ok() && s.Left() == 0
}
