package deduce_test

import (
	"slices"
	"strconv"
	"strings"
	"testing"

	"cassock/api"
	"cassock/deduce"
	"cassock/term"
)

// model is an arena's nodes, and what the chapter says of them, as it says it: all its rules, over all terms, till none adds one.
type model struct {
	nodes []api.Node
}

func (m model) derived(l []int) map[int]bool {
	can := map[int]bool{}
	for _, t := range l {
		can[t] = true
	}
	for before := -1; before < len(can); {
		before = len(can)
		for t, n := range m.nodes {
			all := n.Op != api.Atom
			for _, part := range n.L {
				all = all && can[part]
			}
			if all || n.Op == api.Text {
				can[t] = true
			}
			if can[t] {
				for _, x := range m.opened(n, can) {
					can[x] = true
				}
			}
		}
	}
	return can
}

// opened are the terms that one that can be derived opens.
func (m model) opened(n api.Node, can map[int]bool) []int {
	switch n.Op {
	case api.List:
		return n.L
	case api.Seal:
		if pk := m.nodes[n.L[0]]; pk.Op == api.Pub && can[pk.L[0]] {
			return []int{n.L[1], n.L[2]}
		}
	case api.Enc:
		if can[n.L[0]] {
			return []int{n.L[1], n.L[2], n.L[3]}
		}
	case api.Blind:
		if can[n.L[1]] {
			return []int{n.L[0]}
		}
	case api.Sig:
		l := []int{n.L[1]}
		if b := m.nodes[n.L[1]]; b.Op == api.Blind && can[b.L[1]] {
			for s, sig := range m.nodes {
				if sig.Op == api.Sig && sig.L[0] == n.L[0] && sig.L[1] == b.L[0] {
					l = append(l, s)
				}
			}
		}
		return l
	}
	return nil
}

// known are those that can be derived of l, and of what it is made of, rising.
func (m model) known(l []int) []int {
	can := m.derived(l)
	var known []int
	var add func(t int)
	add = func(t int) {
		if can[t] && !slices.Contains(known, t) {
			known = append(known, t)
		}
		for _, part := range m.nodes[t].L {
			add(part)
		}
	}
	for _, t := range l {
		add(t)
	}
	slices.Sort(known)
	return known
}

func (m model) patterns(l []int) []string {
	can := m.derived(l)
	numbers := map[int]int{}
	var told []string
	for _, t := range l {
		told = append(told, m.pattern(t, can, numbers))
	}
	return told
}

func (m model) pattern(t int, can map[int]bool, numbers map[int]int) string {
	n := m.nodes[t]
	all := true
	for _, part := range n.L {
		all = all && can[part]
	}
	parts := func(l []int) string {
		var told []string
		for _, part := range l {
			told = append(told, m.pattern(part, can, numbers))
		}
		return "(" + strings.Join(told, ",") + ")"
	}
	if n.Op == api.Text {
		return `"` + n.S + `"`
	}
	if n.Op == api.List || n.Op != api.Atom && all {
		return names[n.Op] + parts(n.L)
	}
	if _, met := numbers[t]; !met {
		numbers[t] = len(numbers)
	}
	name, number := names[n.Op], "#"+strconv.Itoa(numbers[t])
	if n.Op == api.Atom {
		name = "atom"
	}
	if n.Op == api.Sig {
		return name + number + parts(n.L[1:])
	}
	if n.Op == api.Seal && m.nodes[n.L[0]].Op == api.Pub && can[m.nodes[n.L[0]].L[0]] {
		return name + number + parts(n.L[1:3])
	}
	return name + number
}

// chance tells numbers that look as if they were drawn, the same ones each time.
type chance uint64

func (c *chance) below(n int) int {
	*c = *c*6364136223846793005 + 1442695040888963407
	return int(*c>>33) % n
}

// drawn is an arena of some terms, many of which open one another.
func drawn(t *testing.T, c *chance) (arena, model) {
	a := begin(t)
	var l []int
	for i := range 4 {
		l = append(l, a.atom(i), a.of(api.Pub, a.atom(i)))
	}
	pick := func() int {
		if c.below(3) == 0 {
			return l[len(l)-1-c.below(min(6, len(l)))]
		}
		return l[c.below(len(l))]
	}
	for range 6 + c.below(20) {
		var x int
		switch op := []int{api.Text, api.List, api.Hash, api.Mix, api.Key, api.Pub, api.Seal, api.Seal, api.Enc, api.Enc, api.Sig, api.Mac, api.Blind, api.Blind}[c.below(14)]; op {
		case api.Text:
			x = a.word([]string{"", "x", `","`, `x","y`}[c.below(4)])
		case api.List:
			x = a.of(api.List, []int{pick(), pick(), pick()}[:c.below(4)]...)
		case api.Key:
			x = a.of(api.Key, pick(), a.word("x"), pick())
		case api.Blind: // it is signed, and, at times, its message
			m, sk := pick(), pick()
			x = a.of(api.Sig, sk, a.of(api.Blind, m, pick()))
			if c.below(3) > 0 {
				l = append(l, a.of(api.Sig, sk, m))
			}
		default:
			var parts []int
			for range kinds[op] {
				parts = append(parts, pick())
			}
			x = a.of(op, parts...)
		}
		l = append(l, x)
	}
	return a, modelOf(a.Arena)
}

func modelOf(a *term.Arena) model {
	var m model
	for t := range a.Len() {
		n, _ := a.Node(t)
		m.nodes = append(m.nodes, n)
	}
	return m
}

// some are a few terms of an arena.
func some(c *chance, a arena) []int {
	var l []int
	for range c.below(6) {
		l = append(l, c.below(a.Len()))
	}
	return l
}

const arenas = 500

// Of many arenas, and many lists of their terms, what can be derived is what the chapter says.
func TestDerivesAgainstModel(t *testing.T) {
	c := chance(1)
	for range arenas {
		a, m := drawn(t, &c)
		for range 4 {
			l := some(&c, a)
			a.knows(l, m.known(l)...)
			can := m.derived(l)
			for goal := range m.nodes {
				a.derives(can[goal], l, []int{goal})
			}
		}
		if t.Failed() {
			return
		}
	}
}

// Of many arenas the patterns are those that the chapter says, and lists look the same just where theirs are.
func TestPatternsAgainstModel(t *testing.T) {
	c := chance(2)
	met := map[bool]int{}
	for range arenas {
		a, m := drawn(t, &c)
		for range 4 {
			l, k := some(&c, a), some(&c, a)
			a.looks(l, m.patterns(l)...)
			same := slices.Equal(m.patterns(l), m.patterns(k))
			a.alike(same, l, k)
			met[same]++
			for x := range m.nodes { // one that differs in one term alone
				if len(l) > 0 {
					k = slices.Clone(l)
					k[c.below(len(k))] = x
					same = slices.Equal(m.patterns(l), m.patterns(k))
					a.alike(same, l, k)
					met[same]++
				}
			}
		}
		if t.Failed() {
			return
		}
	}
	if met[true] < 500 || met[false] < 500 {
		t.Errorf("got %v", met)
	}
}

// With more terms more can be derived, and what can be derived adds nothing.
func TestMoreTerms(t *testing.T) {
	c := chance(3)
	for range arenas {
		a, _ := drawn(t, &c)
		l := some(&c, a)
		var can, cannot []int
		for goal := range a.Len() {
			if is, _ := deduce.Derives(a.Arena, l, goal); is {
				can = append(can, goal)
			} else {
				cannot = append(cannot, goal)
			}
		}
		a.can(append(some(&c, a), l...), can...)
		known, _ := deduce.Known(a.Arena, l)
		for _, more := range [][]int{can, known} {
			a.cannot(append(more, l...), cannot...)
		}
		a.knows(append(known, l...), known...)
	}
}

// Atoms of other numbers, in an arena where all terms have other numbers, too, change no pattern.
func TestRenamedAtoms(t *testing.T) {
	c := chance(4)
	for range arenas {
		a, m := drawn(t, &c)
		b := begin(t)
		renamed := make([]int, len(m.nodes))
		for i := range 20 {
			b.atom(i + 1)
		}
		for x, n := range m.nodes {
			if n.Op == api.Atom {
				n.N = 1000 - n.N
			}
			n.L = slices.Clone(n.L)
			for i, part := range n.L {
				n.L[i] = renamed[part]
			}
			renamed[x] = b.make(n)
		}
		l := some(&c, a)
		var k []int
		for _, x := range l {
			k = append(k, renamed[x])
		}
		want, _ := deduce.Pattern(a.Arena, l)
		b.looks(k, want...)
	}
}

// What stands under a key that can't be derived shows nothing but whether it is the same term.
func TestUnderUnknownKeys(t *testing.T) {
	c := chance(5)
	for range arenas {
		a, m := drawn(t, &c)
		l := some(&c, a)
		k, draw := a.atom(100), a.atom(101) // nobody has these
		pk := a.of(api.Pub, k)
		under := func(x int) []int {
			n := c.below(a.Len())
			return append(slices.Clone(l), a.of(api.Enc, k, n, n, x), a.of(api.Seal, pk, n, x, draw), a.of(api.Mac, k, x), a.of(api.Mix, x, draw), a.of(api.Blind, x, draw))
		}
		x, y := c.below(len(m.nodes)), c.below(len(m.nodes))
		a.alike(true, under(x), under(y))
		a.alike(x == y, append(under(x), a.of(api.Mac, k, x)), append(under(x), a.of(api.Mac, k, y)))
	}
}
