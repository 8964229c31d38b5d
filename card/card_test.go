package card_test

import (
	"math"
	"reflect"
	"strings"
	"testing"

	"trefoil/api"
	"trefoil/card"
)

// far are the least and the greatest numbers, and such as are small once cut.
var far = []int{math.MinInt, math.MinInt + 1, -1 << 32, -1<<32 + 1, 1 << 32, 1<<32 + 1, 1<<32 + 64, math.MaxInt - 1, math.MaxInt}

// tried are the numbers that are tried in each field.
func tried() []int {
	l := append([]int{}, far...)
	for n := -1001; n <= 1001; n++ {
		l = append(l, n)
	}
	return l
}

// asks tells which numbers may be.
type asks func(n int) bool

func from(least, most int) asks {
	return func(n int) bool { return n >= least && n <= most }
}

func zero(n int) bool { return n == 0 }

func plainOrSwift(n int) bool { return n == 0 || n == 64 }

// want tells OK, if it may be, and else ErrCard.
func want(may bool) api.Errno {
	if may {
		return api.OK
	}
	return api.ErrCard
}

// hold holds Check of c, in a pool of so many cards, against e.
func hold(t *testing.T, c api.Card, cards int, e api.Errno) {
	t.Helper()
	if got := card.Check(c, cards); got != e {
		t.Errorf("%+v of %d cards: %d, not %d", c, cards, got, e)
	}
}

func adds(n int) []api.Instr {
	l := make([]api.Instr, n)
	for i := range l {
		l[i].Op = api.InAdd
	}
	return l
}

// hurtFirst needs a target.
var hurtFirst = []api.Instr{{Op: api.InNum, A: 2}, {Op: api.InHurt}}

// bare is a card of the kind that may be; a spell has its one ability.
func bare(kind int) api.Card {
	c := api.Card{Name: "a", Kind: kind}
	if kind == 3 {
		c.Abils = []api.Ability{{Kind: 1}}
	}
	return c
}

// carriers are the cards on which an ability of the kind may be.
func carriers(kind int) []api.Card {
	if kind == 1 {
		return []api.Card{{Name: "a", Kind: 3}}
	}
	return []api.Card{{Name: "a", Kind: 1}, {Name: "a", Kind: 2}, {Name: "a", Kind: 4}}
}

// holdAbility holds Check of each card that may have a against e.
func holdAbility(t *testing.T, a api.Ability, cards int, e api.Errno) {
	t.Helper()
	for _, c := range carriers(a.Kind) {
		c.Abils = []api.Ability{a}
		hold(t, c, cards, e)
	}
}

// P5.1: the chapter's examples.
func TestCheckExamples(t *testing.T) {
	land := api.Card{Name: "a", Kind: api.KindLand, Color: 1}
	hold(t, land, 1, api.OK)
	dear := land
	dear.Cost = api.Mana{1}
	hold(t, dear, 1, api.ErrCard)
	dear.Cost = api.Mana{0, 0, 0, 1}
	hold(t, dear, 1, api.ErrCard)
	hold(t, api.Card{Kind: api.KindLand, Color: 1}, 1, api.ErrCard)
	lord := api.Ability{Kind: api.AbStatic, Who: 3, Op: api.LyAdd, A: 1, B: 1}
	beast := api.Card{Name: "lord", Kind: api.KindBeast, Power: 2, Tough: 2, Abils: []api.Ability{lord}}
	hold(t, beast, 1, api.OK)
	lord.A, lord.B = 16, 0
	beast.Abils = []api.Ability{lord}
	hold(t, beast, 1, api.ErrCard)
	spell := api.Card{Name: "bolt", Kind: api.KindSpell}
	hold(t, spell, 1, api.ErrCard)
	spell.Abils = []api.Ability{{Kind: api.AbSpell, Targets: []int{api.TgBeast}, Code: hurtFirst}}
	hold(t, spell, 1, api.OK)
	hold(t, land, -1, api.ErrArg)
	land.Name = strings.Repeat("a", 17)
	hold(t, land, 1, api.ErrLong)
}

// P5.1: each number field of a card of each Kind, at every number.
func TestCheckOfCardsNumbers(t *testing.T) {
	type fields struct{ cost, color, power, tough, keys asks }
	kinds := map[int]fields{
		1: {zero, from(0, 3), zero, zero, zero},
		2: {from(0, 20), zero, from(0, 15), from(0, 15), from(0, 127)},
		3: {from(0, 20), zero, zero, zero, plainOrSwift},
		4: {from(0, 20), zero, zero, zero, plainOrSwift},
	}
	for kind, may := range kinds {
		for _, n := range tried() {
			for i := range 4 {
				c := bare(kind)
				c.Cost[i] = n
				hold(t, c, 1, want(may.cost(n)))
			}
			c := bare(kind)
			c.Color = n
			hold(t, c, 1, want(may.color(n)))
			c = bare(kind)
			c.Power = n
			hold(t, c, 1, want(may.power(n)))
			c = bare(kind)
			c.Tough = n
			hold(t, c, 1, want(may.tough(n)))
			c = bare(kind)
			c.Keys = n
			hold(t, c, 1, want(may.keys(n)))
		}
	}
}

// P5.1: the greatest numbers that may be, all at once; and none for another.
func TestCheckOfCardsWhole(t *testing.T) {
	dear := api.Mana{20, 20, 20, 20}
	for _, x := range []struct {
		c   api.Card
		may bool
	}{
		{api.Card{Name: "a", Kind: 1, Color: 3}, true},
		{api.Card{Name: "a", Kind: 2, Cost: dear, Power: 15, Tough: 15, Keys: 127}, true},
		{api.Card{Name: "a", Kind: 3, Cost: dear, Keys: 64, Abils: []api.Ability{{Kind: 1}}}, true},
		{api.Card{Name: "a", Kind: 4, Cost: dear, Keys: 64}, true},
		{api.Card{Name: "a", Kind: 1, Cost: dear, Color: 3}, false},
		{api.Card{Name: "a", Kind: 2, Cost: dear, Color: 3, Power: 15, Tough: 15}, false},
		{api.Card{Name: "a", Kind: 4, Cost: dear, Power: 15, Tough: 15}, false},
		{api.Card{Name: "a", Kind: 2, Cost: api.Mana{21, -1, 0, 0}}, false},
		{api.Card{Name: "a", Kind: 2, Power: -1, Tough: 1}, false},
	} {
		hold(t, x.c, 0, want(x.may))
	}
}

// P5.1: a Kind that is none.
func TestCheckOfNoKind(t *testing.T) {
	for _, n := range tried() {
		if n < 1 || n > 4 {
			hold(t, api.Card{Name: "a", Kind: n}, 1, api.ErrCard)
			hold(t, api.Card{Name: "a", Kind: n, Abils: []api.Ability{{Kind: 1}}}, 1, api.ErrCard)
		}
	}
}

// P5.1: names of every length: bytes are counted, whichever they are.
func TestCheckOfNames(t *testing.T) {
	for kind := 1; kind <= 4; kind++ {
		for n := 0; n <= 40; n++ {
			for _, b := range []string{"a", " ", "\x00", "\xff", "\n"} {
				c := bare(kind)
				c.Name = strings.Repeat(b, n)
				e := api.OK
				if n == 0 {
					e = api.ErrCard
				} else if n > 16 {
					e = api.ErrLong
				}
				hold(t, c, 1, e)
			}
		}
		c := bare(kind)
		c.Name = strings.Repeat("\u00e4", 8)
		hold(t, c, 1, api.OK)
		c.Name = strings.Repeat("\u00e4", 9)
		hold(t, c, 1, api.ErrLong)
		c.Name = strings.Repeat("a", 1<<16+1)
		hold(t, c, 1, api.ErrLong)
	}
}

// P5.1: pools of every size.
func TestCheckOfPools(t *testing.T) {
	for kind := 1; kind <= 4; kind++ {
		for _, n := range tried() {
			e := api.OK
			if n < 0 || n > 40 {
				e = api.ErrArg
			}
			hold(t, bare(kind), n, e)
		}
	}
}

// P5.1: how many abilities, and which of them, a card of each Kind may have.
func TestCheckOfAbilityKinds(t *testing.T) {
	good := map[int]api.Ability{
		0: {},
		1: {Kind: 1},
		2: {Kind: 2},
		3: {Kind: 3, Event: 1},
		4: {Kind: 4, Op: 3},
		5: {Kind: 5, Event: 2},
		6: {Kind: 6},
	}
	var walk func(c api.Card, may bool)
	walk = func(c api.Card, may bool) {
		e := want(may && (c.Kind != 3 || len(c.Abils) == 1))
		if len(c.Abils) > 4 {
			e = api.ErrLong
		}
		hold(t, c, 1, e)
		if len(c.Abils) > 4 {
			return
		}
		for kind := 0; kind <= 6; kind++ {
			next := c
			next.Abils = append(append([]api.Ability{}, c.Abils...), good[kind])
			walk(next, may && kind >= 1 && kind <= 5 && (kind == 1) == (c.Kind == 3))
		}
	}
	for kind := 1; kind <= 4; kind++ {
		walk(api.Card{Name: "a", Kind: kind}, true)
		hold(t, api.Card{Name: "a", Kind: kind, Abils: []api.Ability{}}, 1, want(kind != 3))
	}
}

// P5.1: an ability's Kind that is none, on a card of each Kind.
func TestCheckOfNoAbility(t *testing.T) {
	for kind := 1; kind <= 4; kind++ {
		for _, n := range tried() {
			if n < 1 || n > 5 {
				hold(t, api.Card{Name: "a", Kind: kind, Abils: []api.Ability{{Kind: n}}}, 1, api.ErrCard)
				hold(t, api.Card{Name: "a", Kind: kind, Abils: []api.Ability{{Kind: n, Event: 1, Op: 1, A: 1}}}, 1, api.ErrCard)
			}
		}
	}
}

// row is an ability that may be, and what each of its number fields may be.
type row struct {
	a                           api.Ability
	event, who, cost, op, na, b asks
	tap, targets, code          bool
}

// rows are the chapter's table, line by line. Where one number says what another
// may be, it is its own line, and stays.
func rows() []row {
	stays := func(n int) asks { return from(n, n) }
	l := []row{
		{a: api.Ability{Kind: 1}, event: zero, who: zero, cost: zero, op: zero, na: zero, b: zero, targets: true, code: true},
		{a: api.Ability{Kind: 2}, event: zero, who: zero, cost: from(0, 20), op: zero, na: zero, b: zero, tap: true, targets: true, code: true},
		{a: api.Ability{Kind: 3, Event: 6}, event: from(1, 6), who: from(0, 2), cost: zero, op: zero, na: zero, b: zero, code: true},
	}
	static := row{a: api.Ability{Kind: 4}, event: zero, who: from(0, 3), cost: zero}
	for op := 1; op <= 4; op++ {
		static.a.Op, static.op = op, stays(op)
		switch op {
		case 1, 2:
			static.a.A, static.na, static.b = 127, from(1, 127), zero
		case 3:
			static.a.A, static.na, static.b = 0, from(0, 15), from(0, 15)
		case 4:
			static.a.A, static.na, static.b = 0, from(-15, 15), from(-15, 15)
		}
		l = append(l, static)
	}
	repl := row{a: api.Ability{Kind: 5}, cost: zero, op: zero, b: zero}
	for event := 1; event <= 4; event++ {
		repl.a.Event, repl.event = event, stays(event)
		switch event {
		case 1:
			repl.a.A, repl.who, repl.na = 1, zero, from(1, 999)
		case 2, 4:
			repl.a.A, repl.who, repl.na = 0, from(0, 1), zero
		case 3:
			repl.a.A, repl.who, repl.na = 0, zero, from(0, 999)
		}
		l = append(l, repl)
	}
	return l
}

// another tells whether it is a line of its own which Op or which Event a has.
func another(r row, a api.Ability) bool {
	return r.a.Kind == 4 && a.Op >= 1 && a.Op <= 4 && a.Op != r.a.Op || r.a.Kind == 5 && a.Event >= 1 && a.Event <= 4 && a.Event != r.a.Event
}

// P5.1: each number field of an ability of each Kind, at every number, on each card that may have it.
func TestCheckOfAbilitiesNumbers(t *testing.T) {
	for _, r := range rows() {
		holdAbility(t, r.a, 1, api.OK)
		for _, n := range tried() {
			for i := range 4 {
				a := r.a
				a.Cost[i] = n
				holdAbility(t, a, 1, want(r.cost(n)))
			}
			a := r.a
			a.Who = n
			holdAbility(t, a, 1, want(r.who(n)))
			a = r.a
			a.A = n
			holdAbility(t, a, 1, want(r.na(n)))
			a = r.a
			a.B = n
			holdAbility(t, a, 1, want(r.b(n)))
			a = r.a
			if a.Event = n; !another(r, a) {
				holdAbility(t, a, 1, want(r.event(n)))
			}
			a = r.a
			if a.Op = n; !another(r, a) {
				holdAbility(t, a, 1, want(r.op(n)))
			}
		}
	}
}

// P5.1: Tap, Targets and Code are only where an ability's Kind names them.
func TestCheckOfAbilitiesLists(t *testing.T) {
	for _, r := range rows() {
		a := r.a
		a.Tap = true
		holdAbility(t, a, 1, want(r.tap))
		a = r.a
		a.Targets, a.Code = []int{}, []api.Instr{}
		holdAbility(t, a, 1, api.OK)
		a = r.a
		a.Code = adds(1)
		holdAbility(t, a, 1, want(r.code))
		a = r.a
		a.Code = adds(32)
		holdAbility(t, a, 1, want(r.code))
		a = r.a
		a.Code = adds(33)
		holdAbility(t, a, 1, api.ErrLong)
		a = r.a
		a.Code = hurtFirst
		holdAbility(t, a, 1, api.ErrCard)
		a.Targets = []int{1}
		holdAbility(t, a, 1, want(r.targets))
		for _, n := range tried() {
			kind := n >= 1 && n <= 6
			a = r.a
			a.Targets = []int{n}
			holdAbility(t, a, 1, want(r.targets && kind))
			a.Targets = []int{n, 6}
			holdAbility(t, a, 1, want(r.targets && kind))
			a.Targets = []int{1, n}
			holdAbility(t, a, 1, want(r.targets && kind))
			a.Targets = []int{1, 2, n}
			holdAbility(t, a, 1, api.ErrLong)
		}
	}
}

// P5.1: a code is asked with so many targets as the ability has, and with so many cards as the pool has.
func TestCheckOfCodes(t *testing.T) {
	for _, r := range rows()[:3] {
		for cards := 0; cards <= 40; cards++ {
			for n := -1; n <= 41; n++ {
				a := r.a
				a.Code = []api.Instr{{Op: api.InToken, A: api.SlMe, B: n}}
				holdAbility(t, a, cards, want(n >= 0 && n < cards))
			}
		}
		for targets := 0; targets <= 2; targets++ {
			for slot := -1; slot <= 8; slot++ {
				a := r.a
				a.Targets = []int{3, 3}[:targets]
				a.Code = []api.Instr{{Op: api.InHurt, A: slot}}
				may := slot >= 2 && slot <= 7 || slot >= 0 && slot < targets
				holdAbility(t, a, 1, want(may && (targets == 0 || r.targets)))
			}
		}
		a := r.a
		a.Code = []api.Instr{{Op: api.InJump, A: 1}}
		holdAbility(t, a, 1, api.OK)
		a.Code = []api.Instr{{Op: api.InJump, A: 2}}
		holdAbility(t, a, 1, api.ErrCard)
		a.Code = []api.Instr{{}}
		holdAbility(t, a, 1, api.ErrCard)
	}
}

// P5.1: every ability is asked, wherever it stands.
func TestCheckOfEachAbility(t *testing.T) {
	good := api.Ability{Kind: 4, Op: 3}
	for _, r := range rows()[1:] {
		bad := r.a
		bad.B = -16
		long := r.a
		long.Targets = []int{1, 1, 1}
		for place := range 4 {
			c := api.Card{Name: "a", Kind: 2, Abils: []api.Ability{good, good, good, good}}
			c.Abils[place] = r.a
			hold(t, c, 1, api.OK)
			c.Abils[place] = bad
			hold(t, c, 1, api.ErrCard)
			c.Abils[place] = long
			hold(t, c, 1, api.ErrLong)
		}
	}
}

// P5.1: of several errors the first of ErrArg, ErrLong, ErrCard.
func TestCheckOrder(t *testing.T) {
	bads := []func(c *api.Card){
		func(c *api.Card) { c.Kind = 9 },
		func(c *api.Card) { c.Cost[3] = 21 },
		func(c *api.Card) { c.Power = -1 },
		func(c *api.Card) { c.Abils = []api.Ability{{Kind: 7, Event: -1}} },
		func(c *api.Card) { c.Abils = []api.Ability{{Kind: 3, Event: 1, Code: []api.Instr{{Op: 25}}}} },
	}
	longs := []func(c *api.Card){
		func(c *api.Card) { c.Name = strings.Repeat("a", 17) },
		func(c *api.Card) { c.Abils = append(c.Abils, make([]api.Ability, 5)...) },
		func(c *api.Card) { c.Abils = append(c.Abils, api.Ability{Kind: -1, Targets: []int{9, 9, 9}}) },
		func(c *api.Card) { c.Abils = append(c.Abils, api.Ability{Kind: 9, Code: make([]api.Instr, 33)}) },
	}
	for i, bad := range bads {
		for kind := 1; kind <= 4; kind++ {
			c := bare(kind)
			bad(&c)
			hold(t, c, 1, api.ErrCard)
			hold(t, c, -1, api.ErrArg)
			hold(t, c, 41, api.ErrArg)
		}
		for j, long := range longs {
			c := bare(2)
			bad(&c)
			long(&c)
			if e := card.Check(c, 1); e != api.ErrLong {
				t.Errorf("%d %d: %d", i, j, e)
			}
			hold(t, c, math.MinInt, api.ErrArg)
			hold(t, c, math.MaxInt, api.ErrArg)
		}
	}
	hold(t, api.Card{}, 0, api.ErrCard)
	hold(t, api.Card{}, 41, api.ErrArg)
}

// P5.2: a card that may be in a pool may be in every greater one.
func TestCheckInGreaterPools(t *testing.T) {
	for n := range 40 {
		a := api.Ability{Kind: 2, Code: []api.Instr{{Op: api.InToken, A: api.SlFoes, B: n}}}
		for cards := n + 1; cards <= 40; cards++ {
			holdAbility(t, a, cards, api.OK)
		}
	}
	for _, r := range rows() {
		for cards := 0; cards <= 40; cards++ {
			holdAbility(t, r.a, cards, api.OK)
		}
	}
}

// P5.2: without its abilities a card may be, too, if it is no spell.
func TestCheckWithoutAbilities(t *testing.T) {
	for _, r := range rows() {
		for _, c := range carriers(r.a.Kind) {
			c.Abils = []api.Ability{r.a}
			hold(t, c, 1, api.OK)
			c.Abils = nil
			hold(t, c, 1, want(c.Kind != 3))
			c.Abils = []api.Ability{}
			hold(t, c, 1, want(c.Kind != 3))
		}
	}
}

// P5.1: what is handed in is not changed.
func TestCheckLeavesCards(t *testing.T) {
	fresh := func() api.Card {
		return api.Card{Name: "a", Kind: 2, Abils: []api.Ability{
			{Kind: 2, Cost: api.Mana{1, 2, 3, 4}, Tap: true, Targets: []int{1, 2}, Code: []api.Instr{{Op: 10, A: 1}}},
			{Kind: 4, Who: 3, Op: 4, A: -1, B: 1},
		}}
	}
	c := fresh()
	hold(t, c, 1, api.OK)
	if !reflect.DeepEqual(c, fresh()) {
		t.Errorf("changed: %+v", c)
	}
}
