package code_test

import (
	"fmt"
	"math"
	"slices"
	"strings"
	"testing"

	"trefoil/api"
	"trefoil/code"
)

// lines tells so many instructions that may be in every code.
func lines(n int) []api.Instr {
	l := make([]api.Instr, n)
	for i := range l {
		l[i].Op = api.InAdd
	}
	return l
}

// targetSlots are those of so many targets.
func targetSlots(targets int) []int {
	return [][]int{{}, {0}, {0, 1}}[targets]
}

// each tells the numbers from least to most.
func each(least, most int) []int {
	var l []int
	for n := least; n <= most; n++ {
		l = append(l, n)
	}
	return l
}

// mayA tells what the chapter's table says of A, number by number.
func mayA(op, length, targets int) []int {
	slots := targetSlots(targets)
	switch op {
	case 1:
		return each(-999, 999)
	case 6:
		return []int{5, 6, 7}
	case 7:
		return append(slots, 3)
	case 8, 9:
		return each(0, length)
	case 10:
		return append(slots, 2, 3, 4, 5, 6, 7)
	case 11, 12, 21:
		return append(slots, 3, 4)
	case 13, 14, 15, 16, 17, 18, 19:
		return append(slots, 2, 5, 6, 7)
	case 20:
		return slots
	case 22:
		return []int{0, 1, 2, 3}
	case 23:
		return each(1, 999)
	default:
		return []int{0}
	}
}

// mayB tells what the chapter's table says of B, number by number.
func mayB(op, cards int) []int {
	switch op {
	case 17:
		return each(1, 127)
	case 21:
		return each(0, cards-1)
	default:
		return []int{0}
	}
}

// tried are the numbers that are tried as A and as B: all that may be for some
// Op, those just outside, and far ones.
func tried() []int {
	far := []int{math.MinInt, math.MinInt + 1, -1 << 32, -1000000, 1000000, 1 << 32, 1<<32 + 1, math.MaxInt - 1, math.MaxInt}
	return append(far, each(-1001, 1001)...)
}

// checkOne holds Check of one instruction, the last of length ones, against want.
func checkOne(t *testing.T, in api.Instr, length, targets, cards int, may bool) {
	t.Helper()
	want := api.ErrCode
	if may {
		want = api.OK
	}
	l := append(lines(length-1), in)
	if got := code.Check(l, targets, cards); got != want {
		t.Errorf("%d of %d, %d targets, %d cards: %d, not %d", in, length, targets, cards, got, want)
	}
}

// P4.1: each Op of the chapter's table, with every A: those that may be, and no others.
func TestCheckAsksA(t *testing.T) {
	for op := 1; op <= 24; op++ {
		for targets := 0; targets <= 2; targets++ {
			b := mayB(op, 40)[0]
			for _, length := range []int{1, 2, 32} {
				may := mayA(op, length, targets)
				for _, a := range tried() {
					checkOne(t, api.Instr{Op: op, A: a, B: b}, length, targets, 40, slices.Contains(may, a))
				}
			}
		}
	}
}

// P4.1: each Op of the chapter's table, with every B: those that may be, and no others.
func TestCheckAsksB(t *testing.T) {
	for op := 1; op <= 24; op++ {
		for _, cards := range []int{0, 1, 2, 39, 40} {
			a := mayA(op, 1, 2)[0]
			may := mayB(op, cards)
			for _, b := range tried() {
				checkOne(t, api.Instr{Op: op, A: a, B: b}, 1, 2, cards, slices.Contains(may, b))
			}
		}
	}
}

// P4.1: A and B are both asked, neither for the other.
func TestCheckAsksBoth(t *testing.T) {
	for op := 1; op <= 24; op++ {
		for targets := 0; targets <= 2; targets++ {
			as, bs := mayA(op, 3, targets), mayB(op, 5)
			for a := -2; a <= 9; a++ {
				for b := -2; b <= 130; b++ {
					checkOne(t, api.Instr{Op: op, A: a, B: b}, 3, targets, 5, slices.Contains(as, a) && slices.Contains(bs, b))
				}
			}
		}
	}
}

// P4.1: an Op that is none may not be, whatever A and B.
func TestCheckOfNoOp(t *testing.T) {
	for _, op := range []int{0, -1, 25, 26, 24 + 256, -24, 100, 1 << 32, 1<<32 + 1, math.MinInt, math.MinInt + 1, math.MaxInt} {
		for _, a := range []int{0, 1, 5, -1} {
			for _, b := range []int{0, 1} {
				checkOne(t, api.Instr{Op: op, A: a, B: b}, 1, 2, 40, false)
			}
		}
	}
}

// P4.1: one that may not be is found wherever it stands, and one alone is enough.
func TestCheckAsksEachPlace(t *testing.T) {
	for _, length := range []int{1, 2, 3, 17, 31, 32} {
		l := lines(length)
		if got := code.Check(l, 0, 0); got != api.OK {
			t.Errorf("%d instructions: %d", length, got)
		}
		for i := range l {
			for _, wrong := range []api.Instr{{}, {Op: api.InAdd, A: 1}, {Op: api.InEnd, B: -1}, {Op: api.InJump, A: length + 1}} {
				l[i] = wrong
				if got := code.Check(l, 2, 40); got != api.ErrCode {
					t.Errorf("%d at %d of %d: %d", wrong, i, length, got)
				}
			}
			l[i] = api.Instr{Op: api.InAdd}
		}
	}
}

// P4.1: a target's slot is there with as many targets as it asks, and is not with one fewer.
func TestCheckOfTargets(t *testing.T) {
	for _, op := range []int{7, 10, 11, 12, 13, 14, 15, 16, 17, 18, 19, 20, 21} {
		b := mayB(op, 1)[0]
		for targets := 0; targets <= 2; targets++ {
			checkOne(t, api.Instr{Op: op, A: api.SlFirst, B: b}, 1, targets, 1, targets >= 1)
			checkOne(t, api.Instr{Op: op, A: api.SlSecond, B: b}, 1, targets, 1, targets >= 2)
		}
	}
}

// P4.1: a jump may go to just behind the end, and no farther.
func TestCheckOfJumps(t *testing.T) {
	for _, op := range []int{api.InJump, api.InZero} {
		for length := 1; length <= 32; length++ {
			for at := range length {
				l := lines(length)
				for _, x := range []struct {
					to   int
					want api.Errno
				}{{-1, api.ErrCode}, {0, api.OK}, {at, api.OK}, {length - 1, api.OK}, {length, api.OK}, {length + 1, api.ErrCode}} {
					l[at] = api.Instr{Op: op, A: x.to}
					if got := code.Check(l, 0, 0); got != x.want {
						t.Errorf("%d at %d of %d: %d, not %d", l[at], at, length, got, x.want)
					}
				}
			}
		}
	}
}

// P4.1: how many targets, cards and instructions there may be, and which error comes first.
func TestCheckOfSizes(t *testing.T) {
	far := []int{math.MinInt, math.MinInt + 1, -1 << 32, -1, 0, 1, 2, 3, 4, 39, 40, 41, 42, 256, 1 << 32, math.MaxInt}
	wrong := []api.Instr{{Op: 25}}
	for _, targets := range far {
		for _, cards := range far {
			for _, x := range []struct {
				l    []api.Instr
				want api.Errno
			}{
				{nil, api.OK}, {[]api.Instr{}, api.OK}, {lines(1), api.OK}, {lines(31), api.OK}, {lines(32), api.OK},
				{lines(33), api.ErrLong}, {lines(100), api.ErrLong}, {make([]api.Instr, 33), api.ErrLong},
				{wrong, api.ErrCode}, {append(lines(31), wrong...), api.ErrCode}, {append(lines(32), wrong...), api.ErrLong},
			} {
				want := x.want
				if targets < 0 || targets > 2 || cards < 0 || cards > 40 {
					want = api.ErrArg
				}
				if got := code.Check(x.l, targets, cards); got != want {
					t.Errorf("%d instructions, %d targets, %d cards: %d, not %d", len(x.l), targets, cards, got, want)
				}
			}
		}
	}
}

// P4.1: the chapter's examples.
func TestCheckExamples(t *testing.T) {
	hurt := []api.Instr{{Op: api.InNum, A: 3}, {Op: api.InHurt}}
	for i, x := range []struct {
		l              []api.Instr
		targets, cards int
		want           api.Errno
	}{
		{hurt, 1, 0, api.OK},
		{hurt, 0, 0, api.ErrCode},
		{[]api.Instr{{Op: api.InJump, A: 1}}, 0, 0, api.OK},
		{[]api.Instr{{Op: api.InJump, A: 2}}, 0, 0, api.ErrCode},
		{[]api.Instr{{Op: api.InToken, A: 3}}, 0, 0, api.ErrCode},
		{[]api.Instr{{Op: api.InToken, A: 3}}, 0, 1, api.OK},
	} {
		if got := code.Check(x.l, x.targets, x.cards); got != x.want {
			t.Errorf("%d: %d, not %d", i, got, x.want)
		}
	}
}

func checkWays(t *testing.T, l []api.Instr, i int, want ...int) {
	t.Helper()
	if got := code.Ways(l, i); !slices.Equal(got, want) {
		t.Errorf("%d of %d: %d, not %d", i, l, got, want)
	}
}

// P4.2: the chapter's examples.
func TestWaysExamples(t *testing.T) {
	l := []api.Instr{{Op: api.InZero, A: 2}, {Op: api.InNum, A: 1}, {Op: api.InEnd}}
	checkWays(t, l, 0, 1, 2)
	checkWays(t, l, 1, 2)
	checkWays(t, l, 2)
	checkWays(t, l, 3)
}

// P4.2: of each Op, and of one that is none, at each place.
func TestWaysOfEachOp(t *testing.T) {
	ops := append(each(-1, 26), 1<<32+api.InJump, math.MinInt, math.MaxInt)
	for _, op := range ops {
		for _, length := range []int{1, 2, 5, 32, 40} {
			for i := range length {
				for a := -2; a <= length+2; a++ {
					l := lines(length)
					l[i] = api.Instr{Op: op, A: a, B: a + 1}
					switch {
					case op == 24:
						checkWays(t, l, i)
					case op == 8:
						checkWays(t, l, i, a)
					case op == 9 && a < i+1:
						checkWays(t, l, i, a, i+1)
					case op == 9 && a > i+1:
						checkWays(t, l, i, i+1, a)
					default:
						checkWays(t, l, i, i+1)
					}
				}
			}
		}
	}
}

// P4.2: A stands as it is, even if it may not be; a zero to the place behind it has one way.
func TestWaysOfFarJumps(t *testing.T) {
	for _, a := range []int{math.MinInt, -1, 33, math.MaxInt} {
		checkWays(t, []api.Instr{{}, {Op: api.InJump, A: a}}, 1, a)
		checkWays(t, []api.Instr{{}, {Op: api.InZero, A: a}}, 1, min(a, 2), max(a, 2))
	}
	checkWays(t, []api.Instr{{Op: api.InZero, A: 1}}, 0, 1)
	checkWays(t, []api.Instr{{Op: api.InZero, A: 0}}, 0, 0, 1)
}

// P4.2: of no such instruction there are none.
func TestWaysOfNoPlace(t *testing.T) {
	for _, l := range [][]api.Instr{nil, {}, lines(1), lines(32), {{Op: api.InJump, A: 1}}, {{Op: api.InZero}}} {
		n := len(l)
		for _, i := range []int{-1, -2, -32, math.MinInt, math.MinInt + 1, n, n + 1, n + 1000, 1 << 32, math.MaxInt - 1, math.MaxInt} {
			checkWays(t, l, i)
		}
		if n > 0 {
			checkWays(t, lines(n), n-1, n)
		}
	}
}

// P4.2: the answer is new memory, each time.
func TestWaysIsNew(t *testing.T) {
	l := []api.Instr{{Op: api.InZero, A: 5}}
	first := code.Ways(l, 0)
	first[0], first[1] = 70, 71
	checkWays(t, l, 0, 1, 5)
	if l[0] != (api.Instr{Op: api.InZero, A: 5}) {
		t.Error(l)
	}
}

func checkText(t *testing.T, want string, l ...api.Instr) {
	t.Helper()
	if got := code.Text(l); got != want {
		t.Errorf("%d: %q, not %q", l, got, want)
	}
}

// P4.3: the chapter's example.
func TestTextExample(t *testing.T) {
	checkText(t, "num -3\npump 2\ngrant 0 1\nend\n",
		api.Instr{Op: api.InNum, A: -3}, api.Instr{Op: api.InPump, A: 2}, api.Instr{Op: api.InGrant, B: 1}, api.Instr{Op: api.InEnd})
}

// P4.3: each Op has its word; one that is none has ?.
func TestTextWords(t *testing.T) {
	words := strings.Fields("num add sub mul less count life jump zero hurt gain draw kill bounce banish pump grant tap untap counter token mana roll end")
	for i, word := range words {
		checkText(t, word+"\n", api.Instr{Op: i + 1})
	}
	for _, op := range []int{0, -1, 25, 26, 256, 257, 1<<32 + 1, math.MinInt, math.MaxInt} {
		checkText(t, "?\n", api.Instr{Op: op})
		checkText(t, "? 0 -7\nadd\n", api.Instr{Op: op, B: -7}, api.Instr{Op: api.InAdd})
	}
}

// P4.3: A and B stand as far as the last one that is not 0, of every Op, whether they may be or not.
func TestTextNumbers(t *testing.T) {
	numbers := []int{0, 1, -1, 9, 10, -10, 999, -999, 1000, math.MaxInt, math.MinInt}
	for op := -1; op <= 26; op++ {
		for _, a := range numbers {
			for _, b := range numbers {
				want := strings.TrimSuffix(code.Text([]api.Instr{{Op: op}}), "\n")
				switch {
				case b != 0:
					want = fmt.Sprint(want, " ", a, " ", b)
				case a != 0:
					want = fmt.Sprint(want, " ", a)
				}
				checkText(t, want+"\n", api.Instr{Op: op, A: a, B: b})
			}
		}
	}
}

// P4.3: none has no text; more than 32 have one, too.
func TestTextOfMany(t *testing.T) {
	checkText(t, "")
	for _, n := range []int{1, 31, 32, 33, 5000} {
		checkText(t, strings.Repeat("add\n", n), lines(n)...)
	}
}

// codes tells many codes of so many targets and cards that may be, of each Op.
func codes(targets, cards int) [][]api.Instr {
	var all [][]api.Instr
	for op := 1; op <= 24; op++ {
		for _, length := range []int{1, 2, 5, 32} {
			for _, b := range mayB(op, cards) {
				for _, a := range mayA(op, length, targets) {
					l := lines(length)
					l[(a+b+1000)%length] = api.Instr{Op: op, A: a, B: b}
					all = append(all, l)
				}
			}
		}
	}
	return all
}

// P4.4: of a code that may be, all Ways are from 0 to how many instructions it has.
func TestWaysStay(t *testing.T) {
	for targets := 0; targets <= 2; targets++ {
		for _, l := range codes(targets, 3) {
			if e := code.Check(l, targets, 3); e != api.OK {
				t.Fatalf("%d: %d", l, e)
			}
			for i := range l {
				ways := code.Ways(l, i)
				for _, way := range ways {
					if way < 0 || way > len(l) {
						t.Errorf("%d of %d: %d", i, l, ways)
					}
				}
				if !slices.IsSorted(ways) || len(slices.Compact(slices.Clone(ways))) != len(ways) {
					t.Errorf("%d of %d: %d", i, l, ways)
				}
			}
		}
	}
}

// leaves tells whether a jump of l goes behind its end.
func leaves(l []api.Instr) bool {
	return slices.ContainsFunc(l, func(in api.Instr) bool {
		return (in.Op == api.InJump || in.Op == api.InZero) && in.A > len(l)
	})
}

// P4.4: a beginning of a code that may be, may be, too, if no jump leaves it.
func TestBeginnings(t *testing.T) {
	for _, l := range codes(2, 3) {
		for n := range len(l) + 1 {
			want := api.OK
			if leaves(l[:n]) {
				want = api.ErrCode
			}
			if got := code.Check(l[:n], 2, 3); got != want {
				t.Errorf("%d of %d: %d, not %d", n, l, got, want)
			}
		}
	}
}

// P4.4: a code that may be for fewer targets and cards may be for more.
func TestMoreTargetsAndCards(t *testing.T) {
	for targets := 0; targets <= 2; targets++ {
		for _, cards := range []int{0, 1, 7} {
			for _, l := range codes(targets, cards) {
				for more := targets; more <= 2; more++ {
					for _, of := range []int{cards, cards + 1, 40} {
						if e := code.Check(l, more, of); e != api.OK {
							t.Errorf("%d: %d targets, %d cards: %d", l, more, of, e)
						}
					}
				}
			}
		}
	}
}

// P4.1 to P4.3: what is handed in is not changed, and the same calls answer the same.
func TestHandedInStays(t *testing.T) {
	for _, l := range append(codes(2, 3), []api.Instr{{Op: -1, A: math.MinInt, B: 3}, {}}) {
		has := slices.Clone(l)
		type all struct {
			check api.Errno
			ways  string
			text  string
		}
		ask := func() all {
			var ways string
			for i := range l {
				ways += fmt.Sprint(code.Ways(l, i))
			}
			return all{code.Check(l, 2, 3), ways, code.Text(l)}
		}
		if first, second := ask(), ask(); first != second {
			t.Errorf("%d: %v, then %v", l, first, second)
		}
		if !slices.Equal(l, has) {
			t.Errorf("%d became %d", has, l)
		}
	}
}
