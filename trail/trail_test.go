package trail_test

import (
	"math"
	"math/rand/v2"
	"slices"
	"testing"

	"trefoil/api"
	"trefoil/trail"
)

const most = 1 << 20

// plain is a trail that keeps all the cells of each time: those behind no
// change, behind one, and so on.
type plain [][]int

func newPlain() *plain { return &plain{nil} }

func (p *plain) now() []int { return (*p)[len(*p)-1] }

func (p *plain) alloc(n int) int {
	first := len(p.now())
	*p = append(*p, slices.Concat(p.now(), make([]int, n)))
	return first
}

func (p *plain) set(i, v int) {
	if i < 0 || i >= len(p.now()) || p.now()[i] == v {
		return
	}
	next := slices.Clone(p.now())
	next[i] = v
	*p = append(*p, next)
}

func (p *plain) back(mark int) { *p = (*p)[:mark+1] }

// same says where x is not what p is.
func same(t *testing.T, what string, x *trail.Trail, p *plain) {
	t.Helper()
	is(t, what, x, p.now(), len(*p)-1)
}

// is says where x has other cells, or another number of changes.
func is(t *testing.T, what string, x *trail.Trail, cells []int, mark int) {
	t.Helper()
	if x.Len() != len(cells) || x.Mark() != mark {
		t.Fatalf("%s: %d cells, %d changes, want %d, %d", what, x.Len(), x.Mark(), len(cells), mark)
	}
	for i, want := range cells {
		if n := x.Get(i); n != want {
			t.Fatalf("%s: Get(%d): %d, want %d", what, i, n, want)
		}
	}
	for _, i := range []int{-1, len(cells), len(cells) + 1} {
		if n := x.Get(i); n != 0 {
			t.Fatalf("%s: Get(%d), where there is no cell: %d", what, i, n)
		}
	}
}

// back goes back, and says where that is refused.
func back(t *testing.T, x *trail.Trail, mark int) {
	t.Helper()
	if e := x.Back(mark); e != api.OK {
		t.Fatalf("Back(%d) of %d changes: %d", mark, x.Mark(), e)
	}
}

// laid tells a trail with so many cells, the cell i with the number i + 1.
func laid(n int) *trail.Trail {
	x := trail.New()
	x.Alloc(n)
	for i := range n {
		x.Set(i, i+1)
	}
	return x
}

// far are numbers that are no cell of a trail, and no count of one's changes.
func far() []int {
	return []int{-1, -2, -64, math.MinInt32, -1 << 32, 1 - 1<<32, math.MinInt + 1, math.MinInt,
		most, most + 1, math.MaxInt32, 1 << 32, 1<<32 + 1, math.MaxInt - 1, math.MaxInt}
}

// P7.1, P7.2: the chapter's examples.
func TestExamples(t *testing.T) {
	x := trail.New()
	if a, b := x.Alloc(2), x.Alloc(1); a != 0 || b != 2 {
		t.Errorf("Alloc: %d, %d", a, b)
	}
	x.Set(1, 5)
	if m, n := x.Mark(), x.Get(1); m != 3 || n != 5 {
		t.Errorf("Mark, Get(1): %d, %d", m, n)
	}
	x.Set(1, 7)
	if a, n := x.Alloc(4), x.Len(); a != 3 || n != 7 {
		t.Errorf("Alloc(4), Len: %d, %d", a, n)
	}
	if e, n, l := x.Back(3), x.Get(1), x.Len(); e != api.OK || n != 5 || l != 3 {
		t.Errorf("Back(3), Get(1), Len: %d, %d, %d", e, n, l)
	}
	if a, b := x.Back(9), x.Back(-1); a != api.ErrArg || b != api.ErrArg {
		t.Errorf("Back(9), Back(-1): %d, %d", a, b)
	}
	if n, a := x.Get(9), x.Alloc(0); n != 0 || a != -1 {
		t.Errorf("Get(9), Alloc(0): %d, %d", n, a)
	}
	x.Set(1, 5)
	if m := x.Mark(); m != 3 {
		t.Errorf("Mark behind a Set that changes nothing: %d", m)
	}
}

// P7.1: a new trail has nothing, whatever was done with another one.
func TestNew(t *testing.T) {
	x := laid(3)
	y := trail.New()
	is(t, "a new one", y, nil, 0)
	y.Alloc(2)
	y.Set(0, 9)
	is(t, "the other one", x, []int{1, 2, 3}, 4)
	is(t, "the new one", y, []int{9, 0}, 2)
}

// P7.1: cells are made behind those that are there, with the number 0; one change each time.
func TestAlloc(t *testing.T) {
	x := trail.New()
	var cells []int
	for i, n := range []int{1, 2, 3, 1, 7, 64, 1000} {
		if a := x.Alloc(n); a != len(cells) {
			t.Errorf("Alloc(%d): %d, want %d", n, a, len(cells))
		}
		cells = append(cells, make([]int, n)...)
		is(t, "made", x, cells, 2*i+1)
		x.Set(len(cells)-1, i+1)
		cells[len(cells)-1] = i + 1
		is(t, "set", x, cells, 2*i+2)
	}
}

// P7.1: from one cell to as many as there may be.
func TestAllocEdges(t *testing.T) {
	for _, ahead := range []int{0, 1, 2, most - 1, most} {
		x := trail.New()
		if ahead > 0 {
			x.Alloc(ahead)
		}
		left, mark := most-ahead, x.Mark()
		for _, n := range []int{left + 1, left + 2, most + 1} {
			if a := x.Alloc(n); a != -1 || x.Len() != ahead || x.Mark() != mark {
				t.Errorf("Alloc(%d) behind %d: %d, %d cells, %d changes", n, ahead, a, x.Len(), x.Mark())
			}
		}
		if left == 0 {
			continue
		}
		if a := x.Alloc(left); a != ahead || x.Len() != most || x.Mark() != mark+1 {
			t.Errorf("Alloc(%d) behind %d: %d, %d cells, %d changes", left, ahead, a, x.Len(), x.Mark())
		}
		if a := x.Alloc(1); a != -1 || x.Len() != most || x.Mark() != mark+1 {
			t.Errorf("Alloc(1) of all: %d, %d cells, %d changes", a, x.Len(), x.Mark())
		}
		x.Set(most-1, 5)
		if n := x.Get(most - 1); n != 5 {
			t.Errorf("the last cell of all: %d", n)
		}
		back(t, x, mark)
		if x.Len() != ahead || x.Alloc(left) != ahead || x.Get(most-1) != 0 {
			t.Errorf("%d cells that went are not made again", left)
		}
	}
}

// P7.1: what is no number of cells is refused, and changes nothing.
func TestAllocRefused(t *testing.T) {
	for _, have := range []int{0, 1, 5} {
		x := trail.New()
		cells, mark := make([]int, have), 0
		if have > 0 {
			x.Alloc(have)
			mark = 1
		}
		for _, n := range append(far(), 0) {
			if n == most && have == 0 {
				continue
			}
			if a := x.Alloc(n); a != -1 {
				t.Errorf("Alloc(%d) behind %d: %d", n, have, a)
			}
			is(t, "refused", x, cells, mark)
		}
	}
}

// P7.1: Set changes one cell, the first, the last, or another, to any number; one change each time.
func TestSet(t *testing.T) {
	for n := 1; n <= 5; n++ {
		for i := range n {
			x, cells := laid(n), []int{1, 2, 3, 4, 5}[:n]
			for k, v := range []int{-1, 0, math.MaxInt, math.MinInt, 1 << 32, i + 1} {
				x.Set(i, v)
				cells[i] = v
				is(t, "set", x, cells, n+2+k)
			}
		}
	}
}

// P7.1: Set to what the number is already is no change; there and back are two.
func TestSetSame(t *testing.T) {
	x := trail.New()
	x.Alloc(3)
	for i := range 3 {
		x.Set(i, 0)
	}
	is(t, "0 to 0", x, []int{0, 0, 0}, 1)
	x.Set(2, 4)
	x.Set(2, 4)
	is(t, "4 to 4", x, []int{0, 0, 4}, 2)
	x.Set(2, 0)
	x.Set(2, 0)
	is(t, "to 4 and to 0", x, []int{0, 0, 0}, 3)
	back(t, x, 2)
	is(t, "0 was 4", x, []int{0, 0, 4}, 2)
	x.Set(2, 4)
	is(t, "it is 4 already", x, []int{0, 0, 4}, 2)
}

// P7.1: where there is no cell, Get tells 0 and Set does nothing.
func TestNoCell(t *testing.T) {
	for _, n := range []int{0, 1, 4} {
		x, cells, mark := trail.New(), []int{1, 2, 3, 4}[:n], 0
		if n > 0 {
			x, mark = laid(n), n+1
		}
		for _, i := range append(far(), n, n+1, n+7) {
			if v := x.Get(i); v != 0 {
				t.Errorf("%d cells: Get(%d): %d", n, i, v)
			}
			x.Set(i, 6)
			is(t, "set where there is none", x, cells, mark)
		}
	}
}

// P7.1, P7.2: where a cell went, Get tells 0 and Set does nothing.
func TestCellThatWent(t *testing.T) {
	x := laid(2)
	mark := x.Mark()
	x.Alloc(2)
	x.Set(2, 8)
	x.Set(3, 9)
	back(t, x, mark)
	x.Set(2, 7)
	x.Set(3, 7)
	is(t, "gone", x, []int{1, 2}, mark)
}

// P7.2: Back to each of all changes, at once, and one behind the other.
func TestBack(t *testing.T) {
	build := func() (*trail.Trail, *plain) {
		x, p := trail.New(), newPlain()
		x.Alloc(2)
		p.alloc(2)
		for _, c := range [][2]int{{0, 5}, {1, 6}, {0, 7}, {0, 5}, {1, 0}, {1, math.MinInt}, {0, math.MaxInt}} {
			x.Set(c[0], c[1])
			p.set(c[0], c[1])
		}
		x.Alloc(3)
		p.alloc(3)
		for i := range 5 {
			x.Set(i, 20+i)
			p.set(i, 20+i)
		}
		x.Alloc(1)
		p.alloc(1)
		return x, p
	}
	_, whole := build()
	for mark := range len(*whole) {
		x, p := build()
		back(t, x, mark)
		p.back(mark)
		same(t, "at once", x, p)
	}
	x, p := build()
	for mark := x.Mark(); mark >= 0; mark-- {
		back(t, x, mark)
		p.back(mark)
		same(t, "one behind the other", x, p)
	}
}

// P7.2: Back to 0, to now, and to the change before.
func TestBackEdges(t *testing.T) {
	x := trail.New()
	back(t, x, 0)
	is(t, "back to 0 of nothing", x, nil, 0)
	x = laid(3)
	x.Set(1, 9)
	back(t, x, 5)
	is(t, "back to now", x, []int{1, 9, 3}, 5)
	back(t, x, 4)
	is(t, "back to the change before", x, []int{1, 2, 3}, 4)
	back(t, x, 4)
	is(t, "back to now, again", x, []int{1, 2, 3}, 4)
	x.Alloc(2)
	back(t, x, 4)
	is(t, "back ahead of an Alloc", x, []int{1, 2, 3}, 4)
	back(t, x, 1)
	is(t, "back behind the first Alloc", x, []int{0, 0, 0}, 1)
	back(t, x, 0)
	is(t, "back to 0", x, nil, 0)
}

// P7.2: what is no number of changes is refused, and changes nothing.
func TestBackRefused(t *testing.T) {
	refuse := func(x *trail.Trail, cells []int, mark int) {
		for _, m := range append(far(), mark+1, mark+2) {
			if e := x.Back(m); e != api.ErrArg {
				t.Errorf("Back(%d) of %d changes: %d", m, mark, e)
			}
			is(t, "refused", x, cells, mark)
		}
	}
	refuse(trail.New(), nil, 0)
	x := laid(2)
	refuse(x, []int{1, 2}, 3)
	back(t, x, 2)
	refuse(x, []int{1, 0}, 2) // the changes that were undone are no more
	back(t, x, 0)
	refuse(x, nil, 0)
}

// P7.2: marks within marks, as one tries something, and something else within it.
func TestMarksWithinMarks(t *testing.T) {
	x := laid(2)
	outer := x.Mark()
	for i := range 3 {
		x.Set(0, 10+i)
		x.Alloc(1 + i)
		inner := x.Mark()
		for k := range 3 {
			x.Set(1, 20+k)
			innermost := x.Mark()
			x.Set(2, 30+k)
			x.Alloc(5)
			back(t, x, innermost)
			is(t, "innermost", x, slices.Concat([]int{10 + i, 20 + k}, make([]int, 1+i)), inner+1)
			x.Set(0, 40+k)
			back(t, x, inner)
			is(t, "inner", x, slices.Concat([]int{10 + i, 2}, make([]int, 1+i)), inner)
		}
		back(t, x, outer)
		is(t, "outer", x, []int{1, 2}, outer)
	}
}

// P7.1, P7.2: cells that were gone and are made again have the number 0, as many or fewer or more of them.
func TestMadeAgain(t *testing.T) {
	for _, n := range []int{1, 2, 5, 6, 40} {
		x := laid(2)
		mark := x.Mark()
		x.Alloc(2)
		x.Alloc(3)
		for i := range x.Len() {
			x.Set(i, 50+i)
		}
		back(t, x, mark)
		if a := x.Alloc(n); a != 2 {
			t.Errorf("Alloc(%d): %d", n, a)
		}
		is(t, "made again", x, slices.Concat([]int{1, 2}, make([]int, n)), mark+1)
		for i := range n {
			x.Set(2+i, 0)
		}
		is(t, "0 to 0", x, slices.Concat([]int{1, 2}, make([]int, n)), mark+1)
		back(t, x, 0)
		x.Alloc(n)
		is(t, "the first ones made again", x, make([]int, n), 1)
	}
}

// do does so many things with both trails, and says where they answer otherwise.
func do(t *testing.T, r *rand.Rand, times int, x, y *trail.Trail) {
	t.Helper()
	for range times {
		switch r.IntN(8) {
		case 0:
			n := r.IntN(6) - 1
			if a, b := x.Alloc(n), y.Alloc(n); a != b {
				t.Fatalf("Alloc(%d): %d, %d", n, a, b)
			}
		case 1:
			m := r.IntN(x.Mark()+4) - 1
			if a, b := x.Back(m), y.Back(m); a != b {
				t.Fatalf("Back(%d): %d, %d", m, a, b)
			}
		default:
			i, v := r.IntN(x.Len()+3)-1, r.IntN(4)
			x.Set(i, v)
			y.Set(i, v)
		}
		if a, b := x.Mark(), y.Mark(); a != b {
			t.Fatalf("Mark: %d, %d", a, b)
		}
		if a, b := cells(x), cells(y); !slices.Equal(a, b) {
			t.Fatalf("%v, %v", a, b)
		}
	}
}

// cells tells all cells of x.
func cells(x *trail.Trail) []int {
	l := make([]int, x.Len())
	for i := range l {
		l[i] = x.Get(i)
	}
	return l
}

// P7.3: what is done behind a Back answers as on a trail on which only that was done.
func TestFromThereOn(t *testing.T) {
	for seed := range uint64(200) {
		r := rand.New(rand.NewPCG(seed, 7))
		x, y := trail.New(), trail.New()
		for range 4 {
			do(t, r, 20, x, y)
			mark, was := x.Mark(), cells(x)
			for range r.IntN(30) {
				x.Set(r.IntN(x.Len()+1), r.IntN(9))
				if r.IntN(4) == 0 {
					x.Alloc(1 + r.IntN(20))
				}
			}
			back(t, x, mark)
			is(t, "behind the Back", x, was, mark)
		}
		do(t, r, 20, x, y)
	}
}

// P7.1 to P7.3: whatever is done, a trail is what it is by keeping all cells of each time.
func TestAgainstPlain(t *testing.T) {
	for seed := range uint64(100) {
		r := rand.New(rand.NewPCG(seed, 70))
		x, p := trail.New(), newPlain()
		for range 150 {
			switch r.IntN(9) {
			case 0:
				n := 1 + r.IntN(5)
				if a, want := x.Alloc(n), p.alloc(n); a != want {
					t.Fatalf("Alloc(%d): %d, want %d", n, a, want)
				}
			case 1:
				mark := max(0, x.Mark()-r.IntN(25))
				back(t, x, mark)
				p.back(mark)
			default:
				i, v := r.IntN(x.Len()+2)-1, r.IntN(5)-2
				x.Set(i, v)
				p.set(i, v)
			}
			same(t, "by and by", x, p)
		}
		for len(*p) > 1 {
			mark := r.IntN(len(*p) - 1)
			back(t, x, mark)
			p.back(mark)
			same(t, "at the end", x, p)
		}
	}
}

// P7.1, P7.2: of a trail that is none: ErrNil, -1, 0, nothing, whatever the arguments.
func TestNil(t *testing.T) {
	var x *trail.Trail
	for _, i := range append(far(), 0, 1, 2) {
		if a := x.Alloc(i); a != -1 {
			t.Errorf("Alloc(%d): %d", i, a)
		}
		x.Set(i, 5)
		if n := x.Get(i); n != 0 {
			t.Errorf("Get(%d): %d", i, n)
		}
		if e := x.Back(i); e != api.ErrNil {
			t.Errorf("Back(%d): %d", i, e)
		}
	}
	if n, m := x.Len(), x.Mark(); n != 0 || m != 0 {
		t.Errorf("Len, Mark: %d, %d", n, m)
	}
}
