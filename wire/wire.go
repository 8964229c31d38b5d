// Package wire is layer 1: see shared/doc/01-wire.md.
package wire

import (
	"math/bits"
	"strings"
)

// lastSort has room for every number.
const lastSort = 8

// Reader takes numbers and texts from the beginning of what is left to it.
type Reader struct {
	left    string
	stopped bool
}

// PutNum tells s, and behind it the bytes of n.
func PutNum(s string, n uint64) string {
	return s + numBytes(n)
}

// PutInt tells s, and behind it the bytes of the signed number n.
func PutInt(s string, n int) string {
	return s + numBytes(unsigned(n))
}

// PutText tells s, and behind it the bytes of the text t.
func PutText(s, t string) string {
	return s + numBytes(uint64(len(t))) + t
}

// NewReader tells a reader at the beginning of s.
func NewReader(s string) *Reader {
	return &Reader{left: s}
}

// OK tells whether the reader has not stopped.
func (r *Reader) OK() bool {
	return r != nil && !r.stopped
}

// End tells whether the reader has not stopped, and is at the end.
func (r *Reader) End() bool {
	return r.OK() && r.left == ""
}

// Num takes a number.
func (r *Reader) Num() uint64 {
	if !r.OK() {
		return 0
	}
	n, sort := uint64(0), 0
reading:
	for i := 0; ; i++ {
		switch {
		case i == len(r.left):
			break reading
		case i == 0:
			sort = bits.LeadingZeros8(^r.left[0])
			n = uint64(r.left[0] &^ ones(sort))
		default:
			n = n<<8 | uint64(r.left[i])
		}
		if i < sort {
			continue
		}
		// One number has one row of bytes only: whoever reads and writes it comes to the same ones.
		if sortOf(n) != sort {
			break reading
		}
		r.left = r.left[sort+1:]
		return n
	}
	r.stop()
	return 0
}

// Int takes a signed number.
func (r *Reader) Int() int {
	return signed(r.Num())
}

// Text takes a text.
func (r *Reader) Text() string {
	n := r.Num()
	if !r.OK() {
		return ""
	}
	if n > uint64(len(r.left)) {
		r.stop()
		return ""
	}
	// A copy, so that a short text does not keep the whole row that it was taken from.
	t := strings.Clone(r.left[:n])
	r.left = r.left[n:]
	return t
}

// stop leaves nothing that could be read.
func (r *Reader) stop() {
	r.left, r.stopped = "", true
}

// numBytes tells a number's bytes.
func numBytes(n uint64) string {
	var laid [lastSort + 1]byte
	sort := sortOf(n)
	for i := sort; i > 0; i-- {
		laid[i] = byte(n)
		n >>= 8
	}
	laid[0] = ones(sort) | byte(n)
	row := make([]byte, sort+1)
	copy(row, laid[:])
	return string(row)
}

// sortOf tells the first sort in which there is room for n.
func sortOf(n uint64) int {
	hasRoom := func(sort int) bool {
		return sort == lastSort || n>>(7+7*sort) == 0
	}
	sort := 0
	for !hasRoom(sort) {
		sort++
	}
	return sort
}

// ones tells a byte whose k highest bits are ones.
func ones(k int) byte {
	return ^(byte(0xff) >> k)
}

// unsigned tells the number whose bytes are those of the signed number n.
func unsigned(n int) uint64 {
	m := int64(n)
	return uint64(m)<<1 ^ uint64(m>>63)
}

// signed tells the signed number of which n is the unsigned one.
func signed(n uint64) int {
	return int(int64(n>>1) ^ -int64(n&1))
}
