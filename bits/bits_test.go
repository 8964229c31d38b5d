package bits_test

import (
	"math"
	"math/rand"
	"slices"
	"testing"

	"trefoil/bits"
)

// of tells the set of some places, word by word, as the chapter's Words say it.
func of(places ...int) bits.Set {
	var s bits.Set
	for _, i := range places {
		s[i/64] |= uint64(1) << (i % 64)
	}
	return s
}

// every tells all the places, rising.
func every() []int {
	l := make([]int, 256)
	for i := range l {
		l[i] = i
	}
	return l
}

// edges are the first and last places, and those at which a word begins or ends.
func edges() []int { return []int{0, 63, 64, 127, 128, 191, 192, 255} }

// strangers are numbers that are no place.
func strangers() []int {
	return []int{-1, -9, -63, -64, -65, -128, -256, -257, 256, 257, 319, 320, 512, 1024, 1 << 32, 1<<32 + 3, -1 << 32, 3 - 1<<32, math.MaxInt32, math.MinInt32, math.MaxInt, math.MaxInt - 1, math.MinInt, math.MinInt + 3}
}

// lists are some lists of places, each rising.
func lists() [][]int {
	r := rand.New(rand.NewSource(2))
	all := [][]int{{}, {3, 64, 255}, edges(), every(), every()[:64], every()[64:128], every()[128:192], every()[192:], {1, 2}, {7, 63, 64, 128, 200}}
	for _, i := range edges() {
		all = append(all, []int{i}, without(every(), i))
	}
	for range 60 {
		var l []int
		share := r.Intn(40) + 1
		for i := range 256 {
			if r.Intn(share) == 0 {
				l = append(l, i)
			}
		}
		all = append(all, l)
	}
	return all
}

func without(l []int, i int) []int {
	return slices.DeleteFunc(slices.Clone(l), func(j int) bool { return j == i })
}

func with(l []int, i int) []int {
	l = append(without(l, i), i)
	slices.Sort(l)
	return l
}

// P2.1: the chapter's examples.
func TestPlacesExamples(t *testing.T) {
	s := of(3, 64, 255)
	if n := s.Len(); n != 3 {
		t.Errorf("Len: %d", n)
	}
	for i, want := range map[int]bool{3: true, 64: true, 255: true, 65: false, -1: false, 320: false} {
		if s.Has(i) != want {
			t.Errorf("Has(%d) is not %v", i, want)
		}
	}
	if s.Add(3) != s {
		t.Error("Add of a place that is there changes the set")
	}
	if l := s.Del(64).All(); !slices.Equal(l, []int{3, 255}) {
		t.Errorf("Del(64): %v", l)
	}
	if s.Add(256) != s {
		t.Error("Add(256) changes the set")
	}
}

// P2.1: Has at every place, and at what is none.
func TestHas(t *testing.T) {
	for _, l := range lists() {
		s := of(l...)
		for i := range 256 {
			if want := slices.Contains(l, i); s.Has(i) != want {
				t.Fatalf("%v: Has(%d) is not %v", l, i, want)
			}
		}
		for _, i := range strangers() {
			if s.Has(i) {
				t.Fatalf("%v: Has(%d)", l, i)
			}
		}
	}
}

// P2.1: Add and Del change one place, there already or not, and no other one.
func TestAddDel(t *testing.T) {
	for _, l := range lists() {
		s := of(l...)
		for i := range 256 {
			if got := s.Add(i); got != of(with(l, i)...) {
				t.Fatalf("%v: Add(%d): %v", l, i, got.All())
			}
			if got := s.Del(i); got != of(without(l, i)...) {
				t.Fatalf("%v: Del(%d): %v", l, i, got.All())
			}
		}
		if s != of(l...) {
			t.Fatalf("%v: the set itself was changed", l)
		}
	}
}

// P2.1: Add and Del of what is no place.
func TestAddDelStrangers(t *testing.T) {
	for _, l := range lists() {
		s := of(l...)
		for _, i := range strangers() {
			if got := s.Add(i); got != s {
				t.Errorf("%v: Add(%d): %v", l, i, got.All())
			}
			if got := s.Del(i); got != s {
				t.Errorf("%v: Del(%d): %v", l, i, got.All())
			}
		}
	}
}

// P2.1: Len and All, from no place at all to all of them.
func TestLenAll(t *testing.T) {
	for _, l := range lists() {
		s := of(l...)
		if s.Len() != len(l) {
			t.Errorf("%v: Len: %d", l, s.Len())
		}
		if got := s.All(); !slices.Equal(got, l) {
			t.Errorf("%v: All: %v", l, got)
		}
	}
	if n := of(every()...).Len(); n != 256 {
		t.Errorf("all places: %d", n)
	}
}

// P2.1: each answer of All is a list of its own.
func TestAllIsNew(t *testing.T) {
	s := of(3, 64, 255)
	l, m := s.All(), s.All()
	l[0] = 99
	if m[0] != 3 || s != of(3, 64, 255) {
		t.Error("a list that was answered is shared")
	}
}

// P2.2: the chapter's examples.
func TestNextExamples(t *testing.T) {
	s := of(3, 64, 255)
	for i, want := range map[int]int{0: 3, 3: 3, 4: 64, 64: 64, 65: 255, 255: 255, 256: -1, -9: 3} {
		if n := s.Next(i); n != want {
			t.Errorf("Next(%d): %d, not %d", i, n, want)
		}
	}
}

// P2.2: Next from every number on, places and others.
func TestNext(t *testing.T) {
	for _, l := range lists() {
		s := of(l...)
		for _, i := range append(every(), strangers()...) {
			want := -1
			if k := slices.IndexFunc(l, func(j int) bool { return j >= i }); k >= 0 {
				want = l[k]
			}
			if n := s.Next(i); n != want {
				t.Fatalf("%v: Next(%d): %d, not %d", l, i, n, want)
			}
		}
	}
}

// P2.2: one place alone, looked for from each side of it.
func TestNextEdges(t *testing.T) {
	for _, i := range edges() {
		s := of(i)
		if a, b, c := s.Next(i-1), s.Next(i), s.Next(i+1); a != i || b != i || c != -1 {
			t.Errorf("%d: %d %d %d", i, a, b, c)
		}
	}
	var none bits.Set
	if a, b := none.Next(0), none.Next(255); a != -1 || b != -1 {
		t.Errorf("no place: %d %d", a, b)
	}
}

// P2.3: the chapter's examples.
func TestMergeExamples(t *testing.T) {
	s := of(3, 64, 255)
	if l := s.And(of(64)).All(); !slices.Equal(l, []int{64}) {
		t.Errorf("And: %v", l)
	}
	if l := s.Minus(of(64)).All(); !slices.Equal(l, []int{3, 255}) {
		t.Errorf("Minus: %v", l)
	}
	if l := of(1).Or(of(2)).All(); !slices.Equal(l, []int{1, 2}) {
		t.Errorf("Or: %v", l)
	}
}

// P2.3: of each two sets, place by place; neither of them is changed.
func TestMerge(t *testing.T) {
	ls := lists()
	for _, a := range ls {
		for _, b := range ls {
			s, u := of(a...), of(b...)
			and, or, minus := s.And(u), s.Or(u), s.Minus(u)
			for i := range 256 {
				inA, inB := s[i/64]>>(i%64)&1 == 1, u[i/64]>>(i%64)&1 == 1
				if and.Has(i) != (inA && inB) || or.Has(i) != (inA || inB) || minus.Has(i) != (inA && !inB) {
					t.Fatalf("%v and %v: at %d", a, b, i)
				}
			}
			if s != of(a...) || u != of(b...) {
				t.Fatalf("%v and %v: a set itself was changed", a, b)
			}
		}
	}
}

// P2.4: sets are equal just if they have the same places, whichever way they came to them.
func TestEqual(t *testing.T) {
	ls := lists()
	for _, a := range ls {
		var s bits.Set
		for _, i := range slices.Backward(a) {
			s = s.Add(i)
		}
		u := of(every()...)
		for i := range 256 {
			if !slices.Contains(a, i) {
				u = u.Del(i)
			}
		}
		if s != u || s != of(a...) {
			t.Errorf("%v: built up %v, taken down %v", a, s.All(), u.All())
		}
		for _, b := range ls {
			if (s == of(b...)) != slices.Equal(s.All(), of(b...).All()) {
				t.Errorf("%v and %v", a, b)
			}
		}
	}
}

// P2.4: all that Next tells, one behind the other, is All.
func TestNextTellsAll(t *testing.T) {
	for _, l := range lists() {
		s := of(l...)
		var got []int
		for i := s.Next(0); i != -1; i = s.Next(i + 1) {
			if len(got) == 256 {
				t.Fatalf("%v: Next does not end", l)
			}
			got = append(got, i)
		}
		if !slices.Equal(got, s.All()) || !slices.Equal(got, l) {
			t.Errorf("%v: Next tells %v, All %v", l, got, s.All())
		}
	}
}
