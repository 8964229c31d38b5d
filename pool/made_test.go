package pool_test

import (
	"encoding/hex"
	"math/rand/v2"
	"strconv"
	"strings"
	"testing"

	"trefoil/api"
)

// part is a number of a pool's bytes, and the text behind it, if it is a name's.
type part struct {
	what string
	n    uint64
	text string
}

// parts are what a pool's bytes tell, one behind the other, whether it may be or not.
func parts(l []api.Card) []part {
	var ps []part
	put := func(what string, n int) { ps = append(ps, part{what, uint64(n), ""}) }
	sign := func(what string, n int) {
		twice := 2 * uint64(n)
		if n < 0 {
			twice = 2*-uint64(n) - 1
		}
		ps = append(ps, part{what, twice, ""})
	}
	put("cards", len(l))
	for _, c := range l {
		ps = append(ps, part{"Name", uint64(len(c.Name)), c.Name})
		put("Kind", c.Kind)
		for i := range 4 {
			put("Cost", c.Cost[i])
		}
		put("Color", c.Color)
		put("Power", c.Power)
		put("Tough", c.Tough)
		put("Keys", c.Keys)
		put("Abils", len(c.Abils))
		for _, a := range c.Abils {
			put("abil Kind", a.Kind)
			put("Event", a.Event)
			put("Who", a.Who)
			for i := range 4 {
				put("abil Cost", a.Cost[i])
			}
			if a.Tap {
				put("Tap", 1)
			} else {
				put("Tap", 0)
			}
			put("Targets", len(a.Targets))
			for _, n := range a.Targets {
				put("target", n)
			}
			put("Code", len(a.Code))
			for _, in := range a.Code {
				put("instr Op", in.Op)
				sign("instr A", in.A)
				sign("instr B", in.B)
			}
			put("Op", a.Op)
			sign("A", a.A)
			sign("B", a.B)
		}
	}
	return ps
}

// firstSort tells the first sort with room for n.
func firstSort(n uint64) int {
	for sort := range 8 {
		if n < 1<<(7*(sort+1)) {
			return sort
		}
	}
	return 8
}

// laid tells the bytes of n in a sort that has room for it.
func laid(n uint64, sort int) string {
	b := make([]byte, sort+1)
	for i := sort; i >= 0; i-- {
		b[i] = byte(n)
		n >>= 8
	}
	b[0] |= byte(uint16(0xff00) >> sort)
	return string(b)
}

func (p part) bytes() string { return laid(p.n, firstSort(p.n)) + p.text }

// lay tells the bytes of all parts.
func lay(ps []part) string {
	var s strings.Builder
	for _, p := range ps {
		s.WriteString(p.bytes())
	}
	return s.String()
}

// changed tells the bytes of all parts, but for the one at i, which is p.
func changed(ps []part, i int, p part) string {
	return lay(ps[:i]) + p.bytes() + lay(ps[i+1:])
}

// row tells the bytes that a text names to the base 16.
func row(t *testing.T, s string) string {
	t.Helper()
	b, err := hex.DecodeString(strings.ReplaceAll(s, " ", ""))
	if err != nil {
		t.Fatal(err)
	}
	return string(b)
}

// land is one with the name.
func land(name string) api.Card {
	return api.Card{Name: name, Kind: api.KindLand, Color: 1}
}

// bare is a card of the kind, without anything that it may be without.
func bare(name string, kind int) api.Card {
	c := api.Card{Name: name, Kind: kind}
	if kind == api.KindSpell {
		c.Abils = []api.Ability{{Kind: api.AbSpell}}
	}
	return c
}

// lands are n cards, each with a name of its own.
func lands(n int) []api.Card {
	l := make([]api.Card, n)
	for i := range l {
		l[i] = land("land " + strconv.Itoa(i))
	}
	return l
}

// cubs is an ability that makes a token of the card.
func cubs(card int) api.Ability {
	return api.Ability{Kind: api.AbTrig, Event: api.TvTurn, Who: 1, Code: []api.Instr{
		{Op: api.InNum, A: 1}, {Op: api.InToken, A: api.SlMe, B: card},
	}}
}

// box is a pool with cards of each Kind, and with abilities of each, of each sort.
func box() []api.Card {
	return []api.Card{
		{Name: "hill", Kind: api.KindLand, Color: 3, Abils: []api.Ability{
			{Kind: api.AbAct, Tap: true, Code: []api.Instr{{Op: api.InMana, A: 2}}},
		}},
		{Name: "bear", Kind: api.KindBeast, Cost: api.Mana{1, 2, 3, 4}, Power: 15, Tough: 14, Keys: 127, Abils: []api.Ability{
			{Kind: api.AbAct, Cost: api.Mana{20, 0, 1, 2}, Targets: []int{api.TgBeast, api.TgItem}, Code: []api.Instr{
				{Op: api.InNum, A: -999}, {Op: api.InGrant, A: api.SlFirst, B: 127}, {Op: api.InCounter, A: api.SlSecond}, {Op: api.InNum, A: 999}, {Op: api.InJump, A: 1},
			}},
			{Kind: api.AbStatic, Who: 3, Op: api.LyAdd, A: -15, B: 15},
			{Kind: api.AbStatic, Who: 2, Op: api.LyKeys, A: 127},
			{Kind: api.AbRepl, Event: api.RpHurt, A: 999},
		}},
		{Name: "bolt", Kind: api.KindSpell, Cost: api.Mana{1, 0, 0, 20}, Keys: api.KeySwift, Abils: []api.Ability{
			{Kind: api.AbSpell, Targets: []int{api.TgAny}, Code: []api.Instr{{Op: api.InNum, A: 3}, {Op: api.InHurt, A: api.SlFirst}}},
		}},
		{Name: "sixteen\x00bytes\xff\xc0\n", Kind: api.KindRelic, Cost: api.Mana{0, 0, 0, 3}, Abils: []api.Ability{
			cubs(1),
			{Kind: api.AbRepl, Event: api.RpDie, Who: 1},
			{Kind: api.AbStatic, Op: api.LySet, A: 0, B: 15},
			{Kind: api.AbTrig, Event: api.TvPlay, Who: 2},
		}},
	}
}

// full is a pool than which none has more bytes in its lists.
func full() []api.Card {
	l := make([]api.Card, api.MaxDefs)
	for i := range l {
		l[i] = api.Card{Name: "a beast, named " + string(rune('A'+i)), Kind: api.KindBeast, Cost: api.Mana{20, 20, 20, 20}, Power: 15, Tough: 15, Keys: api.AllKeys}
		for range api.MaxAbils {
			a := api.Ability{Kind: api.AbAct, Cost: api.Mana{20, 20, 20, 20}, Tap: true, Targets: []int{api.TgAny, api.TgItem}}
			for k := range api.MaxCode {
				in := api.Instr{Op: api.InToken, A: api.SlFoes, B: k}
				if k%2 == 0 {
					in = api.Instr{Op: api.InNum, A: 999 - k}
				}
				a.Code = append(a.Code, in)
			}
			l[i].Abils = append(l[i].Abils, a)
		}
	}
	return l
}

// maker makes pools that may be, by a row of numbers that is always the same.
type maker struct {
	*rand.Rand
	beasts []int
	cards  int
}

func newMaker(seed uint64) *maker {
	return &maker{Rand: rand.New(rand.NewPCG(seed, 6))}
}

func (m *maker) pool(cards int) []api.Card {
	l := make([]api.Card, cards)
	m.beasts, m.cards = nil, cards
	for i := range l {
		l[i] = api.Card{Name: m.name(i), Kind: 1 + m.IntN(api.LastKind)}
		if l[i].Kind == api.KindBeast {
			m.beasts = append(m.beasts, i)
		}
	}
	for i := range l {
		m.fill(&l[i])
	}
	return l
}

func (m *maker) name(i int) string {
	b := []byte{byte(i)}
	for len(b) < 1+m.IntN(api.MaxName) {
		b = append(b, byte(m.IntN(256)))
	}
	return string(b)
}

func (m *maker) mana() api.Mana {
	return api.Mana{m.IntN(21), m.IntN(21), m.IntN(21), m.IntN(21)}
}

func (m *maker) fill(c *api.Card) {
	switch c.Kind {
	case api.KindLand:
		c.Color = m.IntN(4)
	case api.KindBeast:
		c.Cost, c.Power, c.Tough, c.Keys = m.mana(), m.IntN(16), m.IntN(16), m.IntN(128)
	case api.KindSpell:
		c.Cost, c.Keys = m.mana(), api.KeySwift*m.IntN(2)
		targets := m.targets()
		c.Abils = []api.Ability{{Kind: api.AbSpell, Targets: targets, Code: m.code(len(targets))}}
		return
	case api.KindRelic:
		c.Cost, c.Keys = m.mana(), api.KeySwift*m.IntN(2)
	}
	for range m.IntN(api.MaxAbils + 1) {
		c.Abils = append(c.Abils, m.ability())
	}
}

func (m *maker) ability() api.Ability {
	switch a := (api.Ability{Kind: api.AbAct + m.IntN(4)}); a.Kind {
	case api.AbAct:
		a.Cost, a.Tap, a.Targets = m.mana(), m.IntN(2) == 1, m.targets()
		a.Code = m.code(len(a.Targets))
		return a
	case api.AbTrig:
		a.Event, a.Who, a.Code = 1+m.IntN(api.LastTv), m.IntN(3), m.code(0)
		return a
	case api.AbStatic:
		a.Op, a.Who = 1+m.IntN(api.LastLy), m.IntN(4)
		switch a.Op {
		case api.LySet:
			a.A, a.B = m.IntN(16), m.IntN(16)
		case api.LyAdd:
			a.A, a.B = m.IntN(31)-15, m.IntN(31)-15
		default:
			a.A = 1 + m.IntN(127)
		}
		return a
	default:
		a.Event = 1 + m.IntN(api.LastRp)
		switch a.Event {
		case api.RpHurt:
			a.A = 1 + m.IntN(999)
		case api.RpDraw:
			a.A = m.IntN(1000)
		default:
			a.Who = m.IntN(2)
		}
		return a
	}
}

func (m *maker) targets() []int {
	l := []int{1 + m.IntN(api.LastTg), 1 + m.IntN(api.LastTg)}
	return l[:m.IntN(3)]
}

func (m *maker) code(targets int) []api.Instr {
	l := make([]api.Instr, m.IntN(api.MaxCode+1))
	for i := range l {
		switch m.IntN(6) {
		case 0:
			l[i] = api.Instr{Op: api.InNum, A: m.IntN(1999) - 999}
		case 1:
			l[i] = api.Instr{Op: api.InJump, A: m.IntN(len(l) + 1)}
		case 2:
			l[i] = api.Instr{Op: api.InGrant, A: api.SlSelf, B: 1 + m.IntN(127)}
		case 3:
			l[i] = api.Instr{Op: api.InHurt, A: m.IntN(targets + 1)}
			if l[i].A == targets {
				l[i].A = api.SlFoes
			}
		case 4:
			if len(m.beasts) > 0 {
				l[i] = api.Instr{Op: api.InToken, A: api.SlMe, B: m.beasts[m.IntN(len(m.beasts))]}
				continue
			}
			fallthrough
		default:
			l[i] = api.Instr{Op: api.InEnd}
		}
	}
	return l
}
