package deal_test

import (
	"fmt"
	"math"
	"math/big"
	"math/rand"
	"slices"
	"testing"

	"trefoil/deal"
)

// byHand tells what P3.1 says, word by word: draws are laid out first, and
// divided by numbers that know no overflow.
func byHand(n int, draws []int) ([]int, int) {
	laid := slices.Clone(draws)
	for len(laid) < n {
		laid = append(laid, 0)
	}
	places := inOrder(n)
	for i := n - 1; i >= 1; i-- {
		by := big.NewInt(int64(i + 1))
		j := new(big.Int).Mod(big.NewInt(int64(laid[n-1-i])), by).Int64()
		has := places[i]
		places[i] = places[j]
		places[j] = has
	}
	return places, min(n-1, len(draws))
}

func inOrder(n int) []int {
	l := make([]int, n)
	for i := range l {
		l[i] = i
	}
	return l
}

// rising tells the elements of l from the least on: how often each is there.
func rising(l []int) []int {
	l = slices.Clone(l)
	slices.Sort(l)
	return l
}

// great are draws of every size, on both sides of 0.
func great() []int {
	return []int{
		math.MinInt, math.MaxInt, -1, 0, 1, math.MinInt + 1, math.MaxInt - 1, math.MinInt32, math.MaxInt32,
		-2, 2, -3, 3, -4096, 4096, -4097, 4097, -1 << 40, 1<<40 + 7, 1<<63 - 25, -1<<63 + 25,
	}
}

// someDraws are lists of draws for n places: fewer than are drawn, as many, and more.
func someDraws(n int) [][]int {
	r := rand.New(rand.NewSource(int64(n)))
	all := [][]int{nil, {}, {0}, {1}, {-1}, {math.MinInt}, {math.MaxInt}, great()}
	for _, long := range []int{n - 2, n - 1, n, n + 1, 2*n + 3} {
		for _, size := range []int{n + 1, math.MaxInt} {
			l := make([]int, max(long, 0))
			for i := range l {
				l[i] = r.Intn(size) - r.Intn(size)
			}
			all = append(all, l)
		}
	}
	return all
}

// permCase is a call of Perm, and what it must answer.
type permCase struct {
	n     int
	draws []int
	want  []int
	drawn int
}

func checkPerms(t *testing.T, cases ...permCase) {
	t.Helper()
	for _, c := range cases {
		if l, drawn := deal.Perm(c.n, c.draws); !slices.Equal(l, c.want) || drawn != c.drawn {
			t.Errorf("Perm(%d, %v): %v, %d", c.n, c.draws, l, drawn)
		}
	}
}

// P3.1: the chapter's examples.
func TestPermExamples(t *testing.T) {
	checkPerms(t,
		permCase{3, []int{0, 0}, []int{1, 2, 0}, 2},
		permCase{3, []int{2, 1}, []int{0, 1, 2}, 2},
		permCase{3, []int{-1, 7}, []int{0, 1, 2}, 2},
		permCase{4, []int{1}, []int{3, 2, 0, 1}, 1},
		permCase{1, []int{5}, []int{0}, 0},
		permCase{0, []int{5}, nil, 0},
	)
}

// P3.1: against the words of the promise, for few places and for many.
func TestPerm(t *testing.T) {
	for _, n := range []int{1, 2, 3, 4, 5, 6, 7, 8, 9, 16, 30, 40, 63, 64, 65, 250, 256, 1000, 4095, 4096} {
		for _, draws := range someDraws(n) {
			want, wantDrawn := byHand(n, draws)
			l, drawn := deal.Perm(n, draws)
			if !slices.Equal(l, want) {
				t.Fatalf("%d places, %d draws: another order", n, len(draws))
			}
			if drawn != wantDrawn {
				t.Fatalf("%d places, %d draws: %d were drawn, not %d", n, len(draws), drawn, wantDrawn)
			}
		}
	}
}

// P3.1: one place and two, whatever is drawn.
func TestPermOfFew(t *testing.T) {
	checkPerms(t,
		permCase{1, nil, []int{0}, 0},
		permCase{1, []int{7, 8}, []int{0}, 0},
		permCase{2, nil, []int{1, 0}, 0},
		permCase{2, []int{0}, []int{1, 0}, 1},
		permCase{2, []int{1}, []int{0, 1}, 1},
		permCase{2, []int{2}, []int{1, 0}, 1},
		permCase{2, []int{-3, 5, 6}, []int{0, 1}, 1},
	)
}

// P3.1: no draws at all, fewer than are drawn, just as many, and more.
func TestPermByFewDraws(t *testing.T) {
	checkPerms(t,
		permCase{5, nil, []int{1, 2, 3, 4, 0}, 0},
		permCase{5, []int{}, []int{1, 2, 3, 4, 0}, 0},
		permCase{5, []int{4, 3, 2}, []int{1, 0, 2, 3, 4}, 3},
		permCase{5, []int{4, 3, 2, 1}, []int{0, 1, 2, 3, 4}, 4},
		permCase{5, []int{4, 3, 2, 1, 0}, []int{0, 1, 2, 3, 4}, 4},
	)
}

// P3.1: 4096 places are not too many; without draws each but the first goes one place down.
func TestPermOf4096(t *testing.T) {
	want := append(inOrder(4096)[1:], 0)
	if l, drawn := deal.Perm(4096, nil); !slices.Equal(l, want) || drawn != 0 {
		t.Errorf("no draws: %d places, %d", len(l), drawn)
	}
	draws := make([]int, 5000)
	for i := range draws {
		draws[i] = 4095 - i
	}
	if l, drawn := deal.Perm(4096, draws); !slices.Equal(l, inOrder(4096)) || drawn != 4095 {
		t.Errorf("each place keeps what it has: %d places, %d", len(l), drawn)
	}
}

// P3.1: n that is below 1, or above 4096.
func TestPermOfNone(t *testing.T) {
	for _, n := range []int{0, -1, -2, -4096, 4097, 5000, 1 << 20, math.MaxInt32, math.MinInt32, 1<<32 + 3, math.MaxInt, math.MinInt, math.MinInt + 1} {
		for _, draws := range [][]int{nil, {5}, {1, 2, 3}, great()} {
			if l, drawn := deal.Perm(n, draws); len(l) != 0 || drawn != 0 {
				t.Errorf("Perm(%d) of %d draws: %d places, %d", n, len(draws), len(l), drawn)
			}
		}
	}
}

// P3.1: what is left of draws of every size, by hand.
func TestWhatIsLeft(t *testing.T) {
	for _, c := range []struct{ draw, by, left int }{
		{-1, 2, 1}, {-2, 2, 0}, {-1, 3, 2}, {-2, 3, 1}, {-3, 3, 0}, {-4, 3, 2},
		{3, 3, 0}, {4, 3, 1}, {5, 3, 2}, {100, 7, 2}, {-100, 7, 5},
		{math.MaxInt, 2, 1}, {math.MinInt, 2, 0}, {math.MaxInt, 3, 1}, {math.MinInt, 3, 1},
		{math.MaxInt, 10, 7}, {math.MinInt, 10, 2}, {math.MaxInt, 4096, 4095}, {math.MinInt, 4096, 0},
	} {
		l, _ := deal.Perm(c.by, []int{c.draw})
		same, _ := deal.Perm(c.by, []int{c.left})
		if !slices.Equal(l, same) || l[c.by-1] != c.left {
			t.Errorf("%d by %d is not %d: the last place has %d", c.draw, c.by, c.left, l[c.by-1])
		}
	}
}

// P3.1: what is handed in is neither changed nor kept, and each answer is a list of its own.
func TestPermIsNew(t *testing.T) {
	draws := great()
	l, _ := deal.Perm(9, draws)
	if !slices.Equal(draws, great()) {
		t.Error("the draws were changed")
	}
	want := slices.Clone(l)
	m, _ := deal.Perm(9, draws)
	l[0], draws[0] = 99, 1
	if !slices.Equal(m, want) {
		t.Errorf("a list that was answered is shared: %v, not %v", m, want)
	}
}

// P3.2: the chapter's examples.
func TestTurnedExamples(t *testing.T) {
	for _, c := range []struct{ l, perm, want []int }{
		{[]int{7, 8, 9}, []int{2, 0, 1}, []int{9, 7, 8}},
		{[]int{7, 8}, []int{0, 0}, nil},
		{nil, nil, nil},
	} {
		if got := deal.Turned(c.l, c.perm); !slices.Equal(got, c.want) {
			t.Errorf("Turned(%v, %v): %v", c.l, c.perm, got)
		}
	}
}

// P3.2: the i-th element is the one that l has at the place that perm has at i.
func TestTurned(t *testing.T) {
	r := rand.New(rand.NewSource(3))
	for _, n := range []int{1, 2, 3, 4, 7, 40, 250, 4096, 4097, 10000} {
		l := make([]int, n)
		for i := range l {
			l[i] = r.Intn(2*n) - n
		}
		for range 5 {
			perm := r.Perm(n)
			got := deal.Turned(l, perm)
			if len(got) != n {
				t.Fatalf("%d places: %d elements", n, len(got))
			}
			for i, place := range perm {
				if got[i] != l[place] {
					t.Fatalf("%d places: at %d: %d, not %d", n, i, got[i], l[place])
				}
			}
		}
	}
}

// P3.2: lists without elements, nil or not, in each way together.
func TestTurnedEmpty(t *testing.T) {
	for _, l := range [][]int{nil, {}} {
		for _, perm := range [][]int{nil, {}} {
			if got := deal.Turned(l, perm); len(got) != 0 {
				t.Errorf("%v", got)
			}
		}
		for _, perm := range [][]int{{0}, {-1}, {1}, {0, 0}} {
			if got := deal.Turned(l, perm); len(got) != 0 {
				t.Errorf("nothing by %v: %v", perm, got)
			}
		}
	}
	if got := deal.Turned([]int{5}, []int{0}); !slices.Equal(got, []int{5}) {
		t.Errorf("one element: %v", got)
	}
	if got := deal.Turned([]int{math.MinInt, math.MaxInt}, []int{1, 0}); !slices.Equal(got, []int{math.MaxInt, math.MinInt}) {
		t.Errorf("the least and the greatest number: %v", got)
	}
}

// P3.2: lists that are no permutation of three places.
func TestTurnedByNone(t *testing.T) {
	for _, perm := range [][]int{
		nil, {}, {0}, {0, 1}, {2, 1}, {0, 1, 2, 3}, {0, 1, 2, 0}, {0, 1, 2, -1}, {3, 0, 1, 2},
		{0, 0, 0}, {0, 1, 1}, {1, 1, 2}, {2, 0, 2}, {0, 0, 1},
		{-1, 0, 1}, {0, 1, -1}, {0, -2, 1}, {1, 2, 3}, {0, 1, 3}, {3, 1, 0}, {0, 1, 256},
		{math.MaxInt, 0, 1}, {0, math.MinInt, 1}, {0, 1, 1<<32 + 2}, {0, 1, 2 - 1<<32}, {0, 1, math.MinInt + 2},
	} {
		if got := deal.Turned([]int{10, 20, 30}, perm); len(got) != 0 {
			t.Errorf("%v: %v", perm, got)
		}
	}
}

// P3.2: of all lists of three numbers from -1 to 3, just the permutations are taken.
func TestTurnedByEach(t *testing.T) {
	taken := 0
	for i := range 125 {
		perm := []int{i%5 - 1, i/5%5 - 1, i/25 - 1}
		want := slices.Equal(rising(perm), inOrder(3))
		if got := deal.Turned([]int{10, 20, 30}, perm); (len(got) == 3) != want || len(got)%3 != 0 {
			t.Errorf("%v: %v", perm, got)
		} else if want {
			taken++
		}
	}
	if taken != 6 {
		t.Errorf("%d were taken", taken)
	}
}

// P3.2: what is handed in is not changed, and the answer is a list of its own.
func TestTurnedIsNew(t *testing.T) {
	l, perm := []int{7, 8, 9}, []int{0, 1, 2}
	got, again := deal.Turned(l, perm), deal.Turned(l, perm)
	got[0], got[1], got[2] = 1, 1, 1
	if !slices.Equal(l, []int{7, 8, 9}) || !slices.Equal(perm, []int{0, 1, 2}) || !slices.Equal(again, l) {
		t.Errorf("%v %v %v", l, perm, again)
	}
	l[0], perm[0] = 5, 2
	if !slices.Equal(again, []int{7, 8, 9}) {
		t.Errorf("the answer changes with what was handed in: %v", again)
	}
}

// P3.3: Perm makes a permutation, which Turned takes.
func TestPermIsAPermutation(t *testing.T) {
	for _, n := range []int{1, 2, 3, 5, 40, 250, 4096} {
		for _, draws := range someDraws(n) {
			perm, _ := deal.Perm(n, draws)
			if !slices.Equal(rising(perm), inOrder(n)) {
				t.Fatalf("%d places, %d draws: no permutation", n, len(draws))
			}
			if got := deal.Turned(inOrder(n), perm); !slices.Equal(got, perm) {
				t.Fatalf("%d places, %d draws: Turned does not take it", n, len(draws))
			}
		}
	}
}

// rows tells each row of draws for n places that are from 0 to i for each place i.
func rows(n int) [][]int {
	all := [][]int{{}}
	for i := n - 1; i >= 1; i-- {
		var longer [][]int
		for _, row := range all {
			for d := range i + 1 {
				longer = append(longer, append(slices.Clone(row), d))
			}
		}
		all = longer
	}
	return all
}

// P3.3: each permutation comes of just one of those rows: there are as many of
// both, and no permutation comes twice.
func TestEachPermutationOnce(t *testing.T) {
	count := 1
	for n := 1; n <= 7; n++ {
		count *= n
		came := map[string][]int{}
		all := rows(n)
		for _, row := range all {
			perm, drawn := deal.Perm(n, row)
			if drawn != n-1 || !slices.Equal(rising(perm), inOrder(n)) {
				t.Fatalf("%d places, draws %v: %v, %d", n, row, perm, drawn)
			}
			name := fmt.Sprint(perm)
			if other, twice := came[name]; twice {
				t.Fatalf("%d places: %v comes of %v and of %v", n, perm, other, row)
			}
			came[name] = row
		}
		if len(all) != count || len(came) != count {
			t.Errorf("%d places: %d rows, %d permutations, not %d", n, len(all), len(came), count)
		}
	}
}

// P3.3: the row of draws that a permutation comes of, found from its last place down.
func TestRowOfAPermutation(t *testing.T) {
	r := rand.New(rand.NewSource(33))
	for _, n := range []int{1, 2, 9, 40, 250, 4096} {
		want := r.Perm(n)
		places, row := inOrder(n), []int{}
		for i := n - 1; i >= 1; i-- {
			j := slices.Index(places, want[i])
			places[i], places[j] = places[j], places[i]
			row = append(row, j)
		}
		if perm, drawn := deal.Perm(n, row); !slices.Equal(perm, want) || drawn != n-1 {
			t.Errorf("%d places: another one comes of its row, %d drawn", n, drawn)
		}
	}
}

// P3.3: Turned has the same elements, each as often.
func TestTurnedHasTheSame(t *testing.T) {
	r := rand.New(rand.NewSource(34))
	for _, n := range []int{1, 2, 3, 10, 40, 250, 4096} {
		l := make([]int, n)
		for i := range l {
			l[i] = r.Intn(n/2 + 1)
		}
		for _, draws := range someDraws(n) {
			perm, _ := deal.Perm(n, draws)
			if got := deal.Turned(l, perm); !slices.Equal(rising(got), rising(l)) {
				t.Fatalf("%d places, %d draws: other elements", n, len(draws))
			}
		}
	}
}
