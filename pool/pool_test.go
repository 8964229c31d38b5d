package pool_test

import (
	"bytes"
	"math"
	"reflect"
	"strings"
	"testing"

	"trefoil/api"
	"trefoil/pool"
)

// refused says where l is taken by Check, or by Encode, or its bytes by Decode.
func refused(t *testing.T, what string, l []api.Card, want api.Errno) {
	t.Helper()
	if e := pool.Check(l); e != want {
		t.Errorf("Check of %s: %d, want %d", what, e, want)
	}
	if s, e := pool.Encode(l); s != "" || e != want {
		t.Errorf("Encode of %s: % x, %d, want %d", what, s, e, want)
	}
	badForm(t, what, lay(parts(l)))
}

// badForm says where s is taken for a pool's bytes.
func badForm(t *testing.T, what, s string) {
	t.Helper()
	if l, e := pool.Decode(s); l != nil || e != api.ErrForm {
		t.Errorf("Decode of %s: %+v, %d", what, l, e)
	}
}

// taken says where l is refused, its bytes are not those of the chapter, or something else comes of them.
func taken(t *testing.T, what string, l []api.Card) {
	t.Helper()
	if e := pool.Check(l); e != api.OK {
		t.Errorf("Check of %s: %d", what, e)
	}
	s, e := pool.Encode(l)
	if want := lay(parts(l)); e != api.OK || s != want {
		t.Errorf("Encode of %s: % x, %d, want % x", what, s, e, want)
	}
	m, e := pool.Decode(lay(parts(l)))
	if e != api.OK || !reflect.DeepEqual(plain(m), plain(l)) {
		t.Errorf("Decode of %s: %+v, %d, want %+v", what, m, e, l)
	}
}

// plain tells l anew, with nil for each list without elements.
func plain(l []api.Card) []api.Card {
	l = append([]api.Card(nil), l...)
	for i := range l {
		l[i].Abils = append([]api.Ability(nil), l[i].Abils...)
		for k := range l[i].Abils {
			a := &l[i].Abils[k]
			a.Targets = append([]int(nil), a.Targets...)
			a.Code = append([]api.Instr(nil), a.Code...)
		}
	}
	return l
}

// P6.1, P6.2: the chapter's examples.
func TestExamples(t *testing.T) {
	one := []api.Card{land("a")}
	s, e := pool.Encode(one)
	if want := row(t, "01 01 61 01 00 00 00 00 01 00 00 00 00"); s != want || e != api.OK {
		t.Errorf("Encode of one land: % x, %d", s, e)
	}
	for _, x := range []struct {
		l    []api.Card
		want api.Errno
	}{
		{nil, api.ErrArg},
		{lands(41), api.ErrLong},
		{[]api.Card{land("a"), land("a")}, api.ErrTwice},
		{[]api.Card{land("")}, api.ErrCard},
	} {
		if e := pool.Check(x.l); e != x.want {
			t.Errorf("Check of %+v: %d, want %d", x.l, e, x.want)
		}
	}
	badForm(t, "nothing", "")
	badForm(t, "00", "\x00")
	badForm(t, "a byte more", s+"\x00")
}

// P6.2: the bytes of a pool with a code and with signed numbers, told one by one.
func TestEncodeByHand(t *testing.T) {
	l := []api.Card{
		{Name: "ab", Kind: 2, Cost: api.Mana{1, 2, 3, 20}, Power: 14, Tough: 15, Keys: 127, Abils: []api.Ability{
			{Kind: 2, Cost: api.Mana{5, 6, 7, 8}, Tap: true, Targets: []int{6, 3}, Code: []api.Instr{{Op: 1, A: -999}, {Op: 17, A: 1, B: 127}, {Op: 21, A: 3, B: 0}}},
			{Kind: 4, Who: 3, Op: 4, A: -15, B: 15},
		}},
		{Name: "c", Kind: 3, Keys: 64, Abils: []api.Ability{{Kind: 1, Targets: []int{1}, Code: []api.Instr{{Op: 1, A: 64}}}}},
		{Name: "d", Kind: 1, Color: 3, Abils: []api.Ability{{Kind: 3, Event: 6, Who: 2}, {Kind: 5, Event: 1, A: 999}}},
	}
	want := row(t, "03"+
		"02 61 62"+"02"+"01 02 03 14"+"00 0e 0f 7f"+"02"+
		"02 00 00"+"05 06 07 08"+"01"+"02 06 03"+"03"+"01 87 cd 00"+"11 02 80 fe"+"15 06 00"+"00 00 00"+
		"04 00 03"+"00 00 00 00"+"00"+"00"+"00"+"04 1d 1e"+
		"01 63"+"03"+"00 00 00 00"+"00 00 00 40"+"01"+
		"01 00 00"+"00 00 00 00"+"00"+"01 01"+"01"+"01 80 80 00"+"00 00 00"+
		"01 64"+"01"+"00 00 00 00"+"03 00 00 00"+"02"+
		"03 06 02"+"00 00 00 00"+"00"+"00"+"00"+"00 00 00"+
		"05 01 00"+"00 00 00 00"+"00"+"00"+"00"+"00 87 ce 00")
	if s, e := pool.Encode(l); s != want || e != api.OK {
		t.Errorf("% x, %d, want % x", s, e, want)
	}
	if m, e := pool.Decode(want); e != api.OK || !reflect.DeepEqual(m, l) {
		t.Errorf("%+v, %d", m, e)
	}
}

// P6.1: how many cards there are.
func TestHowMany(t *testing.T) {
	refused(t, "none", nil, api.ErrArg)
	refused(t, "none", []api.Card{}, api.ErrArg)
	for n := 1; n <= 40; n++ {
		taken(t, "lands", lands(n))
	}
	for _, n := range []int{41, 42, 127, 128, 300} {
		refused(t, "lands", lands(n), api.ErrLong)
	}
}

// P6.1: cards of each Kind, with abilities of each; the longest pool.
func TestOrdinaryPools(t *testing.T) {
	taken(t, "the box", box())
	taken(t, "the full one", full())
	for kind := 1; kind <= 4; kind++ {
		taken(t, "one bare card", []api.Card{bare("a", kind)})
	}
}

// makers are all abilities with codes, each with the card that may have it.
func makers(code []api.Instr) []api.Card {
	return []api.Card{
		{Name: "maker", Kind: api.KindSpell, Abils: []api.Ability{{Kind: api.AbSpell, Code: code}}},
		{Name: "maker", Kind: api.KindLand, Abils: []api.Ability{{Kind: api.AbAct, Code: code}}},
		{Name: "maker", Kind: api.KindRelic, Abils: []api.Ability{{Kind: api.AbTrig, Event: api.TvDie, Code: code}}},
		{Name: "maker", Kind: api.KindBeast, Abils: []api.Ability{{Kind: api.AbTrig, Event: api.TvEnter}, {Kind: api.AbAct, Code: code}}},
		{Name: "maker", Kind: api.KindRelic, Abils: []api.Ability{
			{Kind: api.AbRepl, Event: api.RpDie}, {Kind: api.AbStatic, Op: api.LyAdd}, {Kind: api.AbAct}, {Kind: api.AbTrig, Event: api.TvTurn, Code: code},
		}},
	}
}

// tokenAt is a code of n instructions, with a token of the card at the place at.
func tokenAt(n, at, card int) []api.Instr {
	l := make([]api.Instr, n)
	for i := range l {
		l[i].Op = api.InAdd
	}
	l[at] = api.Instr{Op: api.InToken, A: api.SlFoes, B: card}
	return l
}

// P6.1: a token's card is a beast: whoever names it, and whichever card it is.
func TestTokens(t *testing.T) {
	for kind := 1; kind <= 4; kind++ {
		for _, cards := range []int{2, 3, 40} {
			for _, of := range []int{0, cards / 2, cards - 1} {
				for _, by := range []int{0, 1, cards - 1} {
					if by == of {
						continue
					}
					for _, maker := range makers(tokenAt(2, 1, of)) {
						l := lands(cards)
						l[by], l[of] = maker, bare("token", kind)
						if kind == api.KindBeast {
							taken(t, "a token of a beast", l)
						} else {
							refused(t, "a token of another", l, api.ErrCard)
						}
					}
				}
			}
		}
	}
}

// P6.1: a card may make tokens of itself, if it is a beast.
func TestTokensOfThemselves(t *testing.T) {
	for _, cards := range []int{1, 2, 40} {
		for _, of := range []int{0, cards - 1} {
			for _, maker := range makers(tokenAt(1, 0, of)) {
				l := lands(cards)
				l[of] = maker
				if maker.Kind == api.KindBeast {
					taken(t, "a token of itself", l)
				} else {
					refused(t, "a token of itself", l, api.ErrCard)
				}
			}
		}
	}
}

// P6.1: each instruction is asked, wherever it stands, and none but an InToken.
func TestTokensAnywhere(t *testing.T) {
	for at := range 32 {
		for _, maker := range makers(tokenAt(32, at, 1)) {
			taken(t, "a token of a beast", []api.Card{maker, bare("bear", api.KindBeast), land("hill")})
			refused(t, "a token of a land", []api.Card{maker, land("hill"), bare("bear", api.KindBeast)}, api.ErrCard)
		}
	}
	for _, maker := range makers([]api.Instr{{Op: api.InGrant, A: api.SlMine, B: 1}}) {
		taken(t, "keys", []api.Card{maker, land("hill"), land("dell")})
	}
	static := api.Card{Name: "orb", Kind: api.KindRelic, Abils: []api.Ability{{Kind: api.AbStatic, Op: api.LySet, A: 1, B: 1}}}
	taken(t, "a static", []api.Card{static, land("hill"), land("dell")})
}

// P6.1: a token's card that is none.
func TestTokensOfNone(t *testing.T) {
	for _, cards := range []int{1, 2, 39, 40} {
		for _, of := range []int{cards, cards + 1, 40, 41, -1, math.MaxInt, math.MinInt} {
			if of >= 0 && of < cards {
				continue
			}
			for _, maker := range makers(tokenAt(1, 0, of)) {
				l := lands(cards)
				l[0] = maker
				refused(t, "a token of none", l, api.ErrCard)
			}
		}
	}
}

// P6.1: two cards with one Name, wherever they stand, and of whichever Kind.
func TestTwice(t *testing.T) {
	for j := range 40 {
		for i := range j {
			l := lands(40)
			l[i], l[j] = bare("same", 1+i%4), bare("same", 1+j%4)
			if e := pool.Check(l); e != api.ErrTwice {
				t.Errorf("%d and %d: %d", i, j, e)
			}
		}
	}
	refused(t, "side by side", []api.Card{land("a"), land("a"), land("b")}, api.ErrTwice)
	refused(t, "far from each other", []api.Card{land("a"), land("b"), land("c"), bare("a", api.KindBeast)}, api.ErrTwice)
	refused(t, "thrice", []api.Card{land("\x00"), land("\x00"), land("\x00")}, api.ErrTwice)
	long := strings.Repeat("x", 15)
	taken(t, "nearly the same", []api.Card{
		land("a"), land("A"), land("a "), land(" a"), land("aa"), land("a\x00"), land("\x00a"), land("\xff"), land("\xfe"),
		land("\u00e4"), land("a\u0308"), land(long), land(long + "a"), land(long + "b"),
	})
}

// badCards are such as may not be, each by one thing.
func badCards() map[string]api.Card {
	spell := func(a api.Ability) api.Card {
		return api.Card{Name: "bad", Kind: api.KindSpell, Abils: []api.Ability{a}}
	}
	relic := func(l ...api.Ability) api.Card {
		return api.Card{Name: "bad", Kind: api.KindRelic, Abils: l}
	}
	act := api.Ability{Kind: api.AbAct}
	return map[string]api.Card{
		"no name":          land(""),
		"a long name":      land(strings.Repeat("x", 17)),
		"a longer name":    land(strings.Repeat("x", 300)),
		"no Kind":          {Name: "bad"},
		"another Kind":     {Name: "bad", Kind: 5},
		"a Kind below 0":   {Name: "bad", Kind: -1},
		"a land's cost":    {Name: "bad", Kind: 1, Cost: api.Mana{0, 0, 0, 1}},
		"a cost below 0":   {Name: "bad", Kind: 2, Cost: api.Mana{-1}},
		"a cost of 21":     {Name: "bad", Kind: 2, Cost: api.Mana{0, 21}},
		"a Color of 4":     {Name: "bad", Kind: 1, Color: 4},
		"a Color below 0":  {Name: "bad", Kind: 1, Color: math.MinInt},
		"a Power of 16":    {Name: "bad", Kind: 2, Power: 16},
		"a Tough below 0":  {Name: "bad", Kind: 2, Tough: -15},
		"Keys of 128":      {Name: "bad", Kind: 2, Keys: 128},
		"Keys below 0":     {Name: "bad", Kind: 2, Keys: -1},
		"a relic's Keys":   {Name: "bad", Kind: 4, Keys: 1},
		"no AbSpell":       {Name: "bad", Kind: 3},
		"a relic's spell":  relic(api.Ability{Kind: api.AbSpell}),
		"five Abils":       relic(act, act, act, act, act),
		"no Kind of abil":  relic(api.Ability{}),
		"three Targets":    spell(api.Ability{Kind: api.AbSpell, Targets: []int{1, 2, 3}}),
		"a target of 7":    spell(api.Ability{Kind: api.AbSpell, Targets: []int{7}}),
		"a target below 0": spell(api.Ability{Kind: api.AbSpell, Targets: []int{1, -1}}),
		"33 instructions":  spell(api.Ability{Kind: api.AbSpell, Code: make([]api.Instr, 33)}),
		"no Op":            spell(api.Ability{Kind: api.AbSpell, Code: []api.Instr{{}}}),
		"a number of 1000": spell(api.Ability{Kind: api.AbSpell, Code: []api.Instr{{Op: 1, A: 1000}}}),
		"one of -1000":     spell(api.Ability{Kind: api.AbSpell, Code: []api.Instr{{Op: 1, A: -1000}}}),
		"B of a number":    spell(api.Ability{Kind: api.AbSpell, Code: []api.Instr{{Op: 1, B: math.MaxInt}}}),
		"no second target": spell(api.Ability{Kind: api.AbSpell, Targets: []int{1}, Code: []api.Instr{{Op: 10, A: 1}}}),
		"a spell's Tap":    spell(api.Ability{Kind: api.AbSpell, Tap: true}),
		"a spell's Event":  spell(api.Ability{Kind: api.AbSpell, Event: 1}),
		"a Who of 3":       relic(api.Ability{Kind: api.AbTrig, Event: 1, Who: 3}),
		"no layer":         relic(api.Ability{Kind: api.AbStatic, Op: 5}),
		"16 more":          relic(api.Ability{Kind: api.AbStatic, Op: api.LyAdd, A: 1, B: 16}),
		"16 less":          relic(api.Ability{Kind: api.AbStatic, Op: api.LyAdd, A: -16}),
		"no harm":          relic(api.Ability{Kind: api.AbRepl, Event: api.RpHurt}),
		"far below 0":      relic(api.Ability{Kind: api.AbRepl, Event: api.RpDraw, A: math.MinInt}),
	}
}

// P6.1, P6.2: pools with a card that may not be.
func TestBadCards(t *testing.T) {
	for what, c := range badCards() {
		refused(t, what, []api.Card{c}, api.ErrCard)
		for at := range 4 {
			l := lands(4)
			l[at] = c
			refused(t, what, l, api.ErrCard)
		}
		l := lands(40)
		l[39] = c
		refused(t, what, l, api.ErrCard)
	}
}

// P6.1: of several errors the first of ErrLong, ErrCard, ErrTwice.
func TestOrder(t *testing.T) {
	for what, c := range badCards() {
		l := lands(41)
		l[0], l[40] = c, l[1]
		refused(t, what+", long", l, api.ErrLong)
		refused(t, what+", twice", []api.Card{land("a"), land("a"), c}, api.ErrCard)
		refused(t, what+", twice", []api.Card{c, land("a"), land("a")}, api.ErrCard)
		refused(t, what+", itself twice", []api.Card{c, c}, api.ErrCard)
	}
	for _, maker := range makers(tokenAt(1, 0, 0)) {
		refused(t, "a token, twice", []api.Card{land("a"), land("a"), maker}, api.ErrCard)
		refused(t, "a token, twice", []api.Card{land("a"), maker, maker}, api.ErrCard)
		l := append([]api.Card{land("a"), land("a"), maker}, lands(38)...)
		refused(t, "a token, twice, long", l, api.ErrLong)
	}
	refused(t, "many that are nothing", make([]api.Card, 41), api.ErrLong)
	refused(t, "some that are nothing", make([]api.Card, 40), api.ErrCard)
}

// P6.2: bytes cut off, at each place, and one more, of each value, at either end.
func TestCutsAndMore(t *testing.T) {
	for _, l := range [][]api.Card{{land("a")}, {bare("a", 3)}, box(), lands(40)} {
		s := lay(parts(l))
		for i := range s {
			badForm(t, "a beginning", s[:i])
		}
		for b := range 256 {
			badForm(t, "one more byte", s+string([]byte{byte(b)}))
		}
		badForm(t, "two of them", s+s)
		badForm(t, "a blank ahead", " "+s)
	}
}

// P6.2: of the longest pool, too, a beginning is no pool's bytes.
func TestCutsOfTheFullPool(t *testing.T) {
	s := lay(parts(full()))
	for i := 0; i < len(s); i += 97 {
		badForm(t, "a beginning", s[:i])
	}
	badForm(t, "a beginning", s[:len(s)-1])
}

// P6.2: each number in each sort later than its own.
func TestLaterSorts(t *testing.T) {
	for _, l := range [][]api.Card{{land("a")}, box()} {
		ps := parts(l)
		for i, p := range ps {
			for sort := firstSort(p.n) + 1; sort <= 8; sort++ {
				badForm(t, p.what, lay(ps[:i])+laid(p.n, sort)+p.text+lay(ps[i+1:]))
			}
		}
	}
}

// P6.2: Tap is 1 or 0, and nothing else.
func TestTap(t *testing.T) {
	l := box()
	ps := parts(l)
	for i, p := range ps {
		if p.what != "Tap" {
			continue
		}
		for _, n := range []uint64{2, 3, 127, 128, 256, 257, 1 << 32, 1<<32 + 1, 1<<63 + 1, math.MaxUint64} {
			badForm(t, "Tap", changed(ps, i, part{"Tap", n, ""}))
		}
	}
	for _, tap := range []bool{false, true} {
		taken(t, "Tap", []api.Card{{Name: "orb", Kind: api.KindRelic, Abils: []api.Ability{{Kind: api.AbAct, Tap: tap}}}})
		m, e := pool.Decode(lay(parts([]api.Card{{Name: "orb", Kind: api.KindRelic, Abils: []api.Ability{{Kind: api.AbAct, Tap: tap}}}})))
		if e != api.OK || m[0].Abils[0].Tap != tap {
			t.Errorf("Tap %v: %+v, %d", tap, m, e)
		}
	}
}

// counts are the parts that tell how many of something follow, with the most that may be.
var counts = map[string]uint64{"cards": 40, "Name": 16, "Abils": 4, "Targets": 2, "Code": 32}

// P6.2: more of something told than follow, up to the greatest number there is.
func TestMoreThanFollow(t *testing.T) {
	seen := map[string]int{}
	for _, l := range [][]api.Card{{land("a")}, {bare("a", 3)}, box(), lands(40)} {
		ps := parts(l)
		for i, p := range ps {
			most, is := counts[p.what]
			if !is {
				continue
			}
			seen[p.what]++
			for n := p.n + 1; n <= most; n++ {
				badForm(t, p.what, changed(ps, i, part{p.what, n, p.text}))
			}
			for _, n := range []uint64{most + 1, 127, 128, 255, 256, 1 << 14, 1 << 31, 1<<32 + p.n, 1 << 40, 1 << 62, 1<<63 - 1, 1 << 63, 1<<63 + p.n, math.MaxUint64 - 1, math.MaxUint64} {
				badForm(t, p.what, changed(ps, i, part{p.what, n, p.text}))
				badForm(t, p.what, lay(ps[:i])+part{p.what, n, p.text}.bytes())
				badForm(t, p.what, lay(ps[:i])+part{p.what, n, ""}.bytes())
			}
		}
	}
	if len(seen) != len(counts) {
		t.Errorf("counts: %v", seen)
	}
}

// P6.2: fewer of something told than follow.
func TestFewerThanFollow(t *testing.T) {
	ps := parts(box())
	for i, p := range ps {
		if _, is := counts[p.what]; !is {
			continue
		}
		for n := range p.n {
			badForm(t, p.what, changed(ps, i, part{p.what, n, p.text}))
		}
	}
}

// P6.2: more than may be, and all of them do follow: cards, abilities, targets, instructions.
func TestMoreThanMayBe(t *testing.T) {
	for _, n := range []int{41, 1000} {
		badForm(t, "cards", lay(parts(lands(n))))
	}
	for _, n := range []int{5, 1000} {
		c := api.Card{Name: "a", Kind: 4}
		for range n {
			c.Abils = append(c.Abils, api.Ability{Kind: 2})
		}
		badForm(t, "abilities", lay(parts([]api.Card{c})))
	}
	for _, n := range []int{3, 33, 1000} {
		a := api.Ability{Kind: 1, Targets: make([]int, n)}
		for i := range a.Targets {
			a.Targets[i] = 1
		}
		badForm(t, "targets", lay(parts([]api.Card{{Name: "a", Kind: 3, Abils: []api.Ability{a}}})))
		a = api.Ability{Kind: 1, Code: make([]api.Instr, n+30)}
		for i := range a.Code {
			a.Code[i].Op = api.InAdd
		}
		badForm(t, "instructions", lay(parts([]api.Card{{Name: "a", Kind: 3, Abils: []api.Ability{a}}})))
	}
}

// P6.2: each number, as one that is far greater: what is cut from it is the one that may be.
func TestFarNumbers(t *testing.T) {
	ps := parts(box())
	for i, p := range ps {
		for _, n := range []uint64{1<<8 + p.n, 1<<16 + p.n, 1<<32 + p.n, 1<<33 + p.n, 1<<63 + p.n, 1<<62 + p.n, -p.n - 1, math.MaxUint64, 1 << 63, 1<<63 - 1} {
			if n < 1999 && (strings.HasSuffix(p.what, "A") || strings.HasSuffix(p.what, "B")) {
				continue
			}
			badForm(t, p.what, changed(ps, i, part{p.what, n, p.text}))
		}
	}
}

// same says where s is taken, and other bytes are laid of what comes of it: it tells whether it is taken.
func same(t *testing.T, s string) bool {
	t.Helper()
	l, e := pool.Decode(s)
	if e != api.OK {
		if l != nil || e != api.ErrForm {
			t.Fatalf("Decode of % x: %+v, %d", s, l, e)
		}
		return false
	}
	if e := pool.Check(l); e != api.OK {
		t.Fatalf("Decode of % x: %+v, which may not be: %d", s, l, e)
	}
	if back, e := pool.Encode(l); back != s || e != api.OK {
		t.Fatalf("Decode of % x: %+v, of which % x is laid, %d", s, l, back, e)
	}
	return true
}

// P6.2, P6.3: any bytes.
func TestAnyBytes(t *testing.T) {
	m := newMaker(1)
	for range 50000 {
		b := make([]byte, m.IntN(80))
		for i := range b {
			b[i] = byte(m.IntN(256))
			if m.IntN(2) == 0 {
				b[i] %= 4
			}
		}
		if len(b) > 0 && m.IntN(2) == 0 {
			b[0] = 1
		}
		same(t, string(b))
	}
	for i := range 1 << 16 {
		if same(t, string([]byte{byte(i >> 8), byte(i)})) {
			t.Errorf("%04x is taken", i)
		}
	}
}

// P6.3: each byte of a pool's, as each other one: what is taken is laid again just so, and is another pool.
func TestEachOtherByte(t *testing.T) {
	for _, l := range [][]api.Card{{land("a")}, {bare("a", 3)}, box()} {
		s, taken := lay(parts(l)), 0
		for i := range s {
			for b := range 256 {
				other := []byte(s)
				if other[i] == byte(b) {
					continue
				}
				other[i] = byte(b)
				if !same(t, string(other)) {
					continue
				}
				taken++
				if m, _ := pool.Decode(string(other)); reflect.DeepEqual(plain(m), plain(l)) {
					t.Errorf("% x and % x are one pool", s, other)
				}
			}
		}
		if taken < 255 {
			t.Errorf("of %d bytes only %d other ones are taken", len(s), taken)
		}
	}
}

// P6.3: bytes of pools with some left out, put in, or changed, here and there.
func TestAlteredBytes(t *testing.T) {
	m, is := newMaker(2), 0
	for range 30000 {
		b := []byte(lay(parts(m.pool(1 + m.IntN(3)))))
		for range 1 + m.IntN(3) {
			if len(b) == 0 {
				break
			}
			switch i := m.IntN(len(b)); m.IntN(3) {
			case 0:
				b[i] = byte(m.IntN(256))
			case 1:
				b = append(b[:i], b[i+1:]...)
			default:
				b = bytes.Join([][]byte{b[:i], {byte(m.IntN(8))}, b[i:]}, nil)
			}
		}
		if same(t, string(b)) {
			is++
		}
	}
	if is < 100 {
		t.Errorf("only %d are taken", is)
	}
}

// P6.3: a pool comes back from its bytes, whichever may be.
func TestPoolsComeBack(t *testing.T) {
	m := newMaker(3)
	for range 60 {
		for cards := 1; cards <= 40; cards++ {
			taken(t, "one that was made", m.pool(cards))
		}
	}
}

// P6.3: pools that are not the same have other bytes, whichever number, name or order is another.
func TestOtherPoolsHaveOtherBytes(t *testing.T) {
	all := map[string][]api.Card{}
	m := newMaker(4)
	for range 3000 {
		l := plain(m.pool(1 + m.IntN(3)))
		s, e := pool.Encode(l)
		if e != api.OK {
			t.Fatalf("%+v: %d", l, e)
		}
		if one, is := all[s]; is && !reflect.DeepEqual(one, l) {
			t.Fatalf("%+v and %+v are both % x", one, l, s)
		}
		all[s] = l
	}
}

// R4: lists that are empty and lists that are nil are the same.
func TestEmptyAndNilLists(t *testing.T) {
	empty := func(abils []api.Ability, targets []int, code []api.Instr) []api.Card {
		return []api.Card{
			{Name: "hill", Kind: api.KindLand, Abils: abils},
			{Name: "bolt", Kind: api.KindSpell, Abils: []api.Ability{{Kind: api.AbSpell, Targets: targets, Code: code}}},
			{Name: "orb", Kind: api.KindRelic, Abils: []api.Ability{{Kind: api.AbStatic, Op: api.LyAdd, Targets: targets, Code: code}}},
		}
	}
	full, bare := empty([]api.Ability{}, []int{}, []api.Instr{}), empty(nil, nil, nil)
	taken(t, "empty lists", full)
	taken(t, "lists that are nil", bare)
	a, _ := pool.Encode(full)
	if b, _ := pool.Encode(bare); a != b {
		t.Errorf("% x, % x", a, b)
	}
}

// R5: what is handed in is not changed; what is answered is new, each list of it.
func TestWhatIsAnsweredIsNew(t *testing.T) {
	l := box()
	s, _ := pool.Encode(l)
	pool.Check(l)
	if !reflect.DeepEqual(l, box()) {
		t.Errorf("changed: %+v", l)
	}
	a, _ := pool.Decode(s)
	b, _ := pool.Decode(s)
	for i := range a {
		for k := range a[i].Abils {
			x := &a[i].Abils[k]
			x.Targets = append(x.Targets, 99, 99, 99)
			x.Code = append(x.Code, make([]api.Instr, 40)...)
			if want := box()[i].Abils[k]; !reflect.DeepEqual(x.Code[:len(want.Code)], append([]api.Instr{}, want.Code...)) {
				t.Errorf("the ability %d of the card %d: %+v", k, i, x)
			}
			clear(x.Targets)
			clear(x.Code)
		}
		clear(a[i].Abils)
	}
	clear(a)
	if !reflect.DeepEqual(plain(b), plain(box())) {
		t.Errorf("%+v", b)
	}
	l[1].Abils[0].Code[0].A, l[0].Name = 5, "dell"
	if m, e := pool.Decode(s); e != api.OK || !reflect.DeepEqual(plain(m), plain(box())) {
		t.Errorf("%+v, %d", m, e)
	}
}

// R6: the same arguments, the same answers.
func TestSameAgain(t *testing.T) {
	l := full()
	s, _ := pool.Encode(l)
	for range 5 {
		if again, e := pool.Encode(l); again != s || e != api.OK {
			t.Errorf("other bytes: %d", e)
		}
		if m, e := pool.Decode(s); e != api.OK || !reflect.DeepEqual(m, l) {
			t.Errorf("another pool: %d", e)
		}
	}
}
