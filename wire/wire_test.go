package wire_test

import (
	"encoding/hex"
	"math"
	"math/bits"
	"strings"
	"testing"

	"trefoil/wire"
)

// row tells the bytes that a text names to the base 16.
func row(t *testing.T, s string) string {
	t.Helper()
	b, err := hex.DecodeString(strings.ReplaceAll(s, " ", ""))
	if err != nil {
		t.Fatal(err)
	}
	return string(b)
}

// same says where bytes are not those that are named to the base 16.
func same(t *testing.T, what, got, want string) {
	t.Helper()
	if got != row(t, want) {
		t.Errorf("%s: % x, want %s", what, got, want)
	}
}

// nums are each sort's least and greatest number, and others, with their bytes.
var nums = []struct {
	n    uint64
	want string
}{
	{0, "00"},
	{1, "01"},
	{127, "7f"},
	{128, "80 80"},
	{300, "81 2c"},
	{1<<14 - 1, "bf ff"},
	{1 << 14, "c0 40 00"},
	{0x123456, "d2 34 56"},
	{1<<21 - 1, "df ff ff"},
	{1 << 21, "e0 20 00 00"},
	{1<<28 - 1, "ef ff ff ff"},
	{1 << 28, "f0 10 00 00 00"},
	{0x712345678, "f7 12 34 56 78"},
	{1<<35 - 1, "f7 ff ff ff ff"},
	{1 << 35, "f8 08 00 00 00 00"},
	{1<<42 - 1, "fb ff ff ff ff ff"},
	{1 << 42, "fc 04 00 00 00 00 00"},
	{1<<49 - 1, "fd ff ff ff ff ff ff"},
	{1 << 49, "fe 02 00 00 00 00 00 00"},
	{1<<56 - 1, "fe ff ff ff ff ff ff ff"},
	{1 << 56, "ff 01 00 00 00 00 00 00 00"},
	{0x0123456789abcdef, "ff 01 23 45 67 89 ab cd ef"},
	{1 << 63, "ff 80 00 00 00 00 00 00 00"},
	{math.MaxUint64, "ff ff ff ff ff ff ff ff ff"},
}

// ints are signed numbers, with their bytes.
var ints = []struct {
	n    int
	want string
}{
	{0, "00"},
	{-1, "01"},
	{1, "02"},
	{-2, "03"},
	{63, "7e"},
	{-64, "7f"},
	{64, "80 80"},
	{-65, "80 81"},
	{-999, "87 cd"},
	{999, "87 ce"},
	{1<<13 - 1, "bf fe"},
	{-1 << 13, "bf ff"},
	{1 << 13, "c0 40 00"},
	{1<<55 - 1, "fe ff ff ff ff ff ff fe"},
	{-1 << 55, "fe ff ff ff ff ff ff ff"},
	{1 << 55, "ff 01 00 00 00 00 00 00 00"},
	{math.MaxInt64, "ff ff ff ff ff ff ff ff fe"},
	{math.MinInt64, "ff ff ff ff ff ff ff ff ff"},
}

// texts are texts, with the bytes of the number before them.
var texts = []struct{ text, want string }{
	{"", "00"},
	{"a", "01"},
	{"ab", "02"},
	{"\x00", "01"},
	{"\xff\x80\xfe", "03"},
	{"\u00e4\u20ac", "05"},
	{strings.Repeat("x", 127), "7f"},
	{strings.Repeat("x", 128), "80 80"},
	{strings.Repeat("\xc0", 1<<14), "c0 40 00"},
}

// P1.1
func TestPutNum(t *testing.T) {
	for _, c := range nums {
		same(t, "PutNum", wire.PutNum("", c.n), c.want)
		same(t, "PutNum behind a row", wire.PutNum("\xff\x00", c.n), "ff 00"+c.want)
	}
}

// P1.1
func TestPutInt(t *testing.T) {
	for _, c := range ints {
		same(t, "PutInt", wire.PutInt("", c.n), c.want)
		same(t, "PutInt behind a row", wire.PutInt("\x80", c.n), "80"+c.want)
	}
}

// P1.1
func TestPutText(t *testing.T) {
	same(t, "PutText of ab", wire.PutText("", "ab"), "02 61 62")
	for _, c := range texts {
		if got, want := wire.PutText("", c.text), row(t, c.want)+c.text; got != want {
			t.Errorf("PutText of %d bytes: % x..", len(c.text), got[:min(len(got), 8)])
		}
		if got, want := wire.PutText("\x05x", c.text), "\x05x"+row(t, c.want)+c.text; got != want {
			t.Errorf("PutText of %d bytes behind a row: % x..", len(c.text), got[:min(len(got), 8)])
		}
	}
}

// at says where a reader is not at the end, or is, against what is wanted, or has stopped.
func at(t *testing.T, what string, r *wire.Reader, end bool) {
	t.Helper()
	if !r.OK() {
		t.Errorf("%s: it has stopped", what)
	}
	if r.End() != end {
		t.Errorf("%s: End is %v", what, !end)
	}
}

// stopped says where a reader has not stopped, or answers something from then on.
func stopped(t *testing.T, what string, r *wire.Reader) {
	t.Helper()
	for range 2 {
		if r.OK() || r.End() {
			t.Errorf("%s: OK %v, End %v", what, r.OK(), r.End())
		}
		if n := r.Num(); n != 0 {
			t.Errorf("%s: Num %d", what, n)
		}
		if n := r.Int(); n != 0 {
			t.Errorf("%s: Int %d", what, n)
		}
		if s := r.Text(); s != "" {
			t.Errorf("%s: Text %q", what, s)
		}
	}
}

// P1.2
func TestNum(t *testing.T) {
	for _, c := range nums {
		r := wire.NewReader(row(t, c.want+"2a"))
		if n := r.Num(); n != c.n {
			t.Errorf("Num of %s: %d, want %d", c.want, n, c.n)
		}
		at(t, c.want, r, false)
		if n := r.Num(); n != 42 {
			t.Errorf("Num behind %s: %d", c.want, n)
		}
		at(t, c.want, r, true)
	}
}

// P1.2
func TestInt(t *testing.T) {
	for _, c := range ints {
		r := wire.NewReader(row(t, c.want+"53"))
		if n := r.Int(); n != c.n {
			t.Errorf("Int of %s: %d, want %d", c.want, n, c.n)
		}
		at(t, c.want, r, false)
		if n := r.Int(); n != -42 {
			t.Errorf("Int behind %s: %d", c.want, n)
		}
		at(t, c.want, r, true)
	}
}

// P1.2
func TestText(t *testing.T) {
	for _, c := range texts {
		r := wire.NewReader(row(t, c.want) + c.text + "\x01z")
		if s := r.Text(); s != c.text {
			t.Errorf("Text of %d bytes: %d bytes", len(c.text), len(s))
		}
		at(t, "text", r, false)
		if s := r.Text(); s != "z" {
			t.Errorf("Text behind %d bytes: %q", len(c.text), s)
		}
		at(t, "text", r, true)
	}
}

// P1.2
func TestEnd(t *testing.T) {
	r := wire.NewReader("")
	at(t, "of nothing", r, true)
	r.Num()
	stopped(t, "of nothing, behind Num", r)

	r = wire.NewReader("\x07")
	at(t, "of 7", r, false)
	at(t, "of 7, asked again", r, false)
	r.Num()
	at(t, "of 7, behind Num", r, true)
	r.Num()
	stopped(t, "of 7, behind a second Num", r)
}

// P1.2
func TestReadersAreApart(t *testing.T) {
	s := row(t, "01 02 80")
	a, b := wire.NewReader(s), wire.NewReader(s)
	if a.Num() != 1 || a.Num() != 2 || a.Num() != 0 {
		t.Error("the first reader")
	}
	stopped(t, "the first reader", a)
	at(t, "the second reader", b, false)
	if n := b.Num(); n != 1 {
		t.Errorf("the second reader: %d", n)
	}
}

// takes are the three ways to read; each tells whether it answered what is zero.
var takes = []struct {
	name string
	zero func(r *wire.Reader) bool
}{
	{"Num", func(r *wire.Reader) bool { return r.Num() == 0 }},
	{"Int", func(r *wire.Reader) bool { return r.Int() == 0 }},
	{"Text", func(r *wire.Reader) bool { return r.Text() == "" }},
}

// stops says where one of the ways to read does not stop at the beginning of a row.
func stops(t *testing.T, s string) {
	t.Helper()
	for _, take := range takes {
		r := wire.NewReader(s)
		if !take.zero(r) {
			t.Errorf("%s of % x: it answered something", take.name, s)
		}
		stopped(t, take.name, r)
	}
}

// P1.2
func TestRowsThatBreakOff(t *testing.T) {
	stops(t, "")
	for _, c := range nums {
		s := row(t, c.want)
		for i := range s {
			stops(t, s[:i])
		}
	}
}

// P1.2
func TestLaterSorts(t *testing.T) {
	for _, s := range []string{
		"80 7f", "80 00", "c0 00 05", "c0 3f ff", "df", "e0 1f ff ff", "f0 0f ff ff ff", "f8 07 ff ff ff ff",
		"fc 03 ff ff ff ff ff", "fe 01 ff ff ff ff ff ff", "ff 00 ff ff ff ff ff ff ff", "ff 00 00 00 00 00 00 00 00",
	} {
		stops(t, row(t, s))
		if s != "df" {
			stops(t, row(t, s+"01 61 05 00"))
		}
	}
}

// P1.2: each number, in each sort later than its own.
func TestEachLaterSort(t *testing.T) {
	for _, c := range nums {
		for sort := len(row(t, c.want)); sort <= 8; sort++ {
			b := make([]byte, sort+1, 16)
			for i, n := sort, c.n; i >= 0; i-- {
				b[i] = byte(n)
				n >>= 8
			}
			b[0] |= byte(uint16(0xff00) >> sort)
			stops(t, string(append(b, 0, 0, 0)))
		}
	}
}

// P1.2
func TestTextsThatAreTooLong(t *testing.T) {
	for _, s := range []string{
		"01", "02 61", "03 61 62", "7f 61", "80 80 61", "ff 7f ff ff ff ff ff ff ff 61",
		"ff 80 00 00 00 00 00 00 00 61", "ff ff ff ff ff ff ff ff ff 61",
	} {
		r := wire.NewReader(row(t, s))
		if got := r.Text(); got != "" {
			t.Errorf("Text of %s: %q", s, got)
		}
		stopped(t, s, r)
	}
}

// P1.2: things were read before the one that is none.
func TestStopInTheMiddle(t *testing.T) {
	r := wire.NewReader(row(t, "05 02 61 62 80 05 01 61 03"))
	if n, s := r.Num(), r.Text(); n != 5 || s != "ab" {
		t.Errorf("%d %q, want 5 ab", n, s)
	}
	at(t, "before the number in a later sort", r, false)
	if n := r.Num(); n != 0 {
		t.Errorf("Num: %d", n)
	}
	stopped(t, "behind the number in a later sort", r)
}

// P1.2
func TestNilReader(t *testing.T) {
	var r *wire.Reader
	stopped(t, "a reader that is nil", r)
}

// many are numbers all over the range, by a short rule.
func many() []uint64 {
	var l []uint64
	for i := range 64 {
		for d := range uint64(3) {
			l = append(l, 1<<i-1+d, ^uint64(0)>>i-d)
		}
	}
	for i, n := 0, uint64(1); i < 2000; i++ {
		n = n*6364136223846793005 + 1442695040888963407
		l = append(l, n>>(i%64))
	}
	return l
}

// P1.3
func TestWhatWasPutComesAgain(t *testing.T) {
	s, l := "", many()
	for i, n := range l {
		s = wire.PutInt(wire.PutNum(s, n), int(n))
		s = wire.PutText(s, strings.Repeat(string(rune(i)), int(n%50)))
	}
	r := wire.NewReader(s)
	for i, n := range l {
		at(t, "on the way", r, false)
		if m := r.Num(); m != n {
			t.Fatalf("Num: %d, want %d", m, n)
		}
		if m := r.Int(); m != int(n) {
			t.Fatalf("Int: %d, want %d", m, int(n))
		}
		if u := r.Text(); u != strings.Repeat(string(rune(i)), int(n%50)) {
			t.Fatalf("Text %d: %q", i, u)
		}
	}
	at(t, "behind all", r, true)
}

// P1.3
func TestFirstByteTellsTheNextPlace(t *testing.T) {
	for _, n := range many() {
		s := wire.PutNum("", n)
		if next := 1 + bits.LeadingZeros8(^s[0]); next != len(s) {
			t.Errorf("%d: the first byte tells %d bytes, there are %d", n, next, len(s))
		}
	}
}

// P1.3
func TestSignsHaveAsManyBytes(t *testing.T) {
	for _, m := range many() {
		n := int(m >> 1)
		if a, b := wire.PutInt("", n), wire.PutInt("", -n-1); len(a) != len(b) {
			t.Errorf("%d has %d bytes, %d has %d", n, len(a), -n-1, len(b))
		}
	}
}

// P1.3, from the other side: a row of two bytes is read as what puts the same bytes, or not at all.
func TestEachRowOfTwoBytes(t *testing.T) {
	for i := range 1 << 16 {
		s := string([]byte{byte(i >> 8), byte(i)})
		r := wire.NewReader(s)
		n := r.Num()
		if r.OK() && !strings.HasPrefix(s, wire.PutNum("", n)) {
			t.Fatalf("% x is read as %d", s, n)
		}
		if want := i < 1<<15 || i>>8 < 0xc0 && i&(1<<14-1) > 127; r.OK() != want {
			t.Fatalf("% x: OK is %v", s, !want)
		}
	}
}
