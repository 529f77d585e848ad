package deduce_test

import (
	"math"
	"slices"
	"testing"

	"cassock/api"
	"cassock/deduce"
	"cassock/term"
)

// arena makes terms that may be.
type arena struct {
	*term.Arena
	t *testing.T
}

func begin(t *testing.T) arena { return arena{term.New(), t} }

func (a arena) make(n api.Node) int {
	a.t.Helper()
	x, e := a.Make(n)
	if e != api.OK {
		a.t.Fatalf("%v: got %d", n, e)
	}
	return x
}

func (a arena) of(op int, l ...int) int {
	a.t.Helper()
	return a.make(api.Node{Op: op, L: l})
}

func (a arena) atom(n int) int { return a.make(api.Node{Op: api.Atom, N: n}) }

func (a arena) word(s string) int { return a.make(api.Node{Op: api.Text, S: s}) }

func (a arena) show(l ...int) []string {
	var shown []string
	for _, t := range l {
		s, _ := a.Show(t)
		shown = append(shown, s)
	}
	return shown
}

// can and cannot hold that of l each goal can be derived, or none.
func (a arena) can(l []int, goals ...int) {
	a.t.Helper()
	a.derives(true, l, goals)
}

func (a arena) cannot(l []int, goals ...int) {
	a.t.Helper()
	a.derives(false, l, goals)
}

func (a arena) derives(want bool, l, goals []int) {
	a.t.Helper()
	terms := a.Len()
	for _, goal := range goals {
		if is, e := deduce.Derives(a.Arena, l, goal); is != want || e != api.OK {
			a.t.Errorf("%v of %v: got %v, %d", a.show(goal), a.show(l...), is, e)
		}
	}
	if a.Len() != terms {
		a.t.Errorf("of %v: %d terms more", a.show(l...), a.Len()-terms)
	}
}

// knows holds that those of l, and of what they are made of, that can be derived are those of want.
func (a arena) knows(l []int, want ...int) {
	a.t.Helper()
	terms := a.Len()
	slices.Sort(want)
	got, e := deduce.Known(a.Arena, l)
	if !slices.Equal(got, want) || e != api.OK || a.Len() != terms {
		a.t.Errorf("of %v: got %v, %d, not %v; %d terms more", a.show(l...), a.show(got...), e, a.show(want...), a.Len()-terms)
	}
}

func TestWhatIsHad(t *testing.T) {
	a := begin(t)
	x, y := a.atom(1), a.atom(2)
	h := a.of(api.Hash, y)
	a.can([]int{x, h}, x, h)
	a.can([]int{y}, y)
	a.cannot([]int{x, h}, y)
	a.cannot(nil, x, y, h)
	a.knows([]int{h, x, h}, x, h)
	a.knows(nil)
}

// Each Text can be derived, wherever it stands.
func TestTexts(t *testing.T) {
	a := begin(t)
	x, k := a.atom(1), a.atom(2)
	no, yes, alone := a.word(""), a.word("yes"), a.word("alone")
	locked := a.of(api.Enc, k, no, yes, x)
	a.can(nil, no, yes, alone)
	a.can([]int{x}, no, yes, alone)
	a.knows([]int{locked}, locked, no, yes)
	a.knows(nil)
}

func TestLists(t *testing.T) {
	a := begin(t)
	x, y, z := a.atom(1), a.atom(2), a.atom(3)
	empty := a.of(api.List)
	inner := a.of(api.List, y, y)
	outer := a.of(api.List, x, inner, empty)
	a.can([]int{outer}, x, inner, y, empty)
	a.cannot([]int{outer}, z)
	a.cannot([]int{inner}, x, outer)
	a.can([]int{x, y}, inner, outer)
	a.can(nil, empty)
	a.knows([]int{outer}, x, y, empty, inner, outer)
	a.knows([]int{empty}, empty)
	a.cannot(nil, inner, outer)
}

// The kinds of two parts and more, and of one, and how many each has.
var kinds = map[int]int{api.List: 3, api.Hash: 1, api.Mix: 2, api.Key: 3, api.Pub: 1, api.Seal: 4, api.Enc: 4, api.Sig: 2, api.Mac: 2, api.Blind: 2}

// one is a term of a kind, of as many Atoms as it has parts (of a Key one less), and those.
func (a arena) one(op int) (int, []int) {
	a.t.Helper()
	var l, atoms []int
	for i := range kinds[op] {
		if op == api.Key && i == 1 {
			l = append(l, a.word("label"))
			continue
		}
		atoms = append(atoms, a.atom(100*op+i))
		l = append(l, atoms[len(atoms)-1])
	}
	return a.of(op, l...), atoms
}

// A term of any kind can be derived of all its parts, and of no fewer.
func TestMadeOfItsParts(t *testing.T) {
	for op := range kinds {
		a := begin(t)
		x, atoms := a.one(op)
		above := a.of(api.Hash, a.of(api.Mix, x, a.word("")))
		a.can(atoms, x, above)
		for i := range atoms {
			a.cannot(slices.Delete(slices.Clone(atoms), i, i+1), x, above, atoms[i])
		}
		a.knows(atoms, atoms...)
	}
}

// Of a term alone, and of it and all but one of its parts, no part can be derived, but of a List, a Sig, and what is open.
func TestNothingElseOfATerm(t *testing.T) {
	for op := range kinds {
		a := begin(t)
		x, atoms := a.one(op)
		for missing, atom := range atoms {
			opens := op == api.List || op == api.Sig && missing == 1
			a.derives(opens, []int{x}, []int{atom})
			opens = opens || op == api.Enc && missing != 0 || op == api.Blind && missing == 0
			l := slices.Delete(slices.Clone(atoms), missing, missing+1)
			a.derives(opens, append(l, x), []int{atom})
		}
	}
}

func TestSeals(t *testing.T) {
	a := begin(t)
	sk, other, aad, plain, draw := a.atom(1), a.atom(2), a.atom(3), a.atom(4), a.atom(5)
	pk := a.of(api.Pub, sk)
	x := a.of(api.Seal, pk, aad, plain, draw)
	a.cannot([]int{x}, pk, aad, plain, draw, sk)
	a.can([]int{x, sk}, pk, aad, plain)
	a.cannot([]int{x, sk}, draw)
	a.cannot([]int{x, pk, other, draw}, aad, plain, sk)
	a.cannot([]int{x, aad, draw}, plain)
	a.cannot([]int{x, plain, draw}, aad)
	a.cannot([]int{sk}, aad, plain)
	a.can([]int{pk, aad, plain, draw}, x)
	a.cannot([]int{pk, aad, plain, draw}, sk)
	a.knows([]int{x, sk}, x, sk, pk, aad, plain)
}

// What is sealed to no Pub opens with nothing.
func TestSealsToNoPub(t *testing.T) {
	a := begin(t)
	sk, aad, plain, draw := a.atom(1), a.atom(3), a.atom(4), a.atom(5)
	pub := a.of(api.Pub, sk)
	for _, pk := range []int{sk, a.of(api.Hash, sk), a.of(api.List, pub), a.of(api.List, sk), a.word("pk"), a.of(api.List)} {
		x := a.of(api.Seal, pk, aad, plain, draw)
		a.cannot([]int{x, sk}, aad, plain, draw)
		a.cannot([]int{x}, aad, plain, draw)
		a.can([]int{sk, aad, plain, draw}, x)
	}
	x := a.of(api.Seal, a.of(api.Pub, pub), aad, plain, draw) // the Pub of a Pub is one
	a.can([]int{x, pub}, aad, plain)
}

func TestEncs(t *testing.T) {
	a := begin(t)
	k, n, aad, plain, other := a.atom(1), a.atom(2), a.atom(3), a.atom(4), a.atom(5)
	x := a.of(api.Enc, k, n, aad, plain)
	a.cannot([]int{x}, k, n, aad, plain)
	a.can([]int{x, k}, n, aad, plain)
	a.cannot([]int{k}, n, aad, plain)
	a.cannot([]int{x, other, a.of(api.Pub, k), a.of(api.Hash, k)}, k, n, aad, plain)
	a.knows([]int{x}, x)
	a.knows([]int{k, x}, k, n, aad, plain, x)
}

func TestBlinds(t *testing.T) {
	a := begin(t)
	m, draw, other := a.atom(1), a.atom(2), a.atom(3)
	x := a.of(api.Blind, m, draw)
	a.cannot([]int{x}, m, draw)
	a.can([]int{x, draw}, m)
	a.cannot([]int{x, other}, m, draw)
	a.cannot([]int{x, m}, draw)
	a.cannot([]int{draw}, m)
}

func TestSigs(t *testing.T) {
	a := begin(t)
	sk, m := a.atom(1), a.atom(2)
	x := a.of(api.Sig, sk, m)
	y := a.of(api.Sig, sk, a.word("m"))
	a.can([]int{x}, m)
	a.cannot([]int{x, a.of(api.Pub, sk)}, sk, y)
	a.can([]int{sk}, y)
	a.cannot([]int{sk}, x, m)
	a.can([]int{sk, m}, x)
}

// Of a Sig of a blinded message the Sig of the message can be derived with what was drawn, if there is that term.
func TestUnblinded(t *testing.T) {
	a := begin(t)
	sk, other, m, draw, wrong := a.atom(1), a.atom(2), a.atom(3), a.atom(4), a.atom(5)
	early := a.of(api.Sig, other, m)
	x := a.of(api.Sig, sk, a.of(api.Blind, m, draw))
	a.can([]int{x, draw}, m) // where there is no such Sig
	a.knows([]int{x, draw}, m, draw, x, a.of(api.Blind, m, draw))

	late, of := a.of(api.Sig, sk, m), a.of(api.Sig, sk, draw)
	y := a.of(api.Sig, other, a.of(api.Blind, m, draw))
	a.can([]int{x, draw}, late)
	a.can([]int{y, draw}, early)
	a.cannot([]int{x, draw}, early, of, sk, y)
	a.cannot([]int{x}, late, m, draw)
	a.cannot([]int{x, wrong}, late, m)
	a.cannot([]int{draw, m}, late)
	a.cannot([]int{a.of(api.Blind, m, draw), draw}, late, x)
	a.cannot([]int{x, m}, late)
	a.cannot([]int{a.of(api.Sig, sk, a.of(api.Mix, m, draw)), draw}, late) // no Blind
	a.cannot([]int{late, m, draw}, x)
}

// What was unblinded opens what is under it, though it stands in nothing else that is had; and is told among what is known where it stands in that alone.
func TestUnblindedOpens(t *testing.T) {
	a := begin(t)
	sk, m, draw, plain := a.atom(1), a.atom(2), a.atom(3), a.atom(4)
	blind := a.of(api.Blind, m, draw)
	x := a.of(api.Sig, sk, blind)
	key := a.of(api.Sig, sk, m)
	locked := a.of(api.Enc, key, a.word(""), a.word(""), plain)
	a.can([]int{x, draw, locked}, plain)
	a.cannot([]int{x, locked}, plain)
	a.knows([]int{x, draw}, m, draw, blind, x)
	a.knows([]int{x, draw, locked}, m, draw, blind, x, key, plain, locked, a.word(""))
}

// A message that was blinded twice is unblinded step by step, over what there is.
func TestUnblindedTwice(t *testing.T) {
	a := begin(t)
	sk, m, d, f := a.atom(1), a.atom(2), a.atom(3), a.atom(4)
	within := a.of(api.Blind, m, d)
	x := a.of(api.Sig, sk, a.of(api.Blind, within, f))
	goal := a.of(api.Sig, sk, m)
	a.can([]int{x, d, f}, m, within)
	a.cannot([]int{x, d, f}, goal) // there is no term between
	between := a.of(api.Sig, sk, within)
	a.can([]int{x, d, f}, goal, between)
	a.can([]int{x, f}, between)
	a.cannot([]int{x, f}, goal, m)
	a.cannot([]int{x, d}, goal, between, m)
}

// Each rule opens what the next one needs.
func TestOneOpensTheNext(t *testing.T) {
	a := begin(t)
	none := a.word("")
	sk, k, seed, m, draw, key, last := a.atom(1), a.atom(2), a.atom(3), a.atom(4), a.atom(5), a.atom(6), a.atom(7)
	sealed := a.of(api.Seal, a.of(api.Pub, sk), none, a.of(api.List, none, k), none) // the List opens
	mixed := a.of(api.Enc, k, none, none, seed)                                      // the Mix, and the Key of it, are made
	signed := a.of(api.Sig, key, a.of(api.Blind, m, draw))
	derived := a.of(api.Enc, a.of(api.Key, a.of(api.Mix, seed, k), a.word("key"), none), signed, draw, none)
	unblinded := a.of(api.Sig, key, m)
	hashed := a.of(api.Seal, a.of(api.Pub, a.of(api.Hash, unblinded)), last, none, none)
	all := []int{sealed, mixed, derived, hashed, sk}
	for range 2 {
		a.can(all, k, seed, signed, draw, m, unblinded, last)
		a.cannot(all, key)
		for i := range all {
			a.cannot(slices.Delete(slices.Clone(all), i, i+1), last)
		}
		slices.Reverse(all)
	}
}

// A key that stands under itself alone, or two that stand under each other, can't be derived.
func TestNoKeyOfItself(t *testing.T) {
	a := begin(t)
	none := a.word("")
	k, f := a.atom(1), a.atom(2)
	own := a.of(api.Enc, k, none, none, k)
	there, back := a.of(api.Enc, k, none, none, f), a.of(api.Seal, a.of(api.Pub, f), none, k, none)
	a.cannot([]int{own, there, back}, k, f)
	a.knows([]int{own, there, back}, own, there, back, none)
	a.can([]int{there, back, f}, k)
	a.can([]int{there, back, k}, f)
}

// A goal that is in none of the terms, nor in what they are made of.
func TestGoalsElsewhere(t *testing.T) {
	a := begin(t)
	x, y, z := a.atom(1), a.atom(2), a.atom(3)
	pair := a.of(api.List, x, y)
	goal := a.of(api.Mac, a.of(api.Hash, y), a.of(api.Key, x, a.word("l"), a.of(api.List)))
	a.can([]int{pair}, goal, a.of(api.List, goal, goal))
	a.cannot([]int{pair}, z, a.of(api.Mac, goal, z))
	a.knows([]int{pair}, x, y, pair)
}

func TestKnownRising(t *testing.T) {
	a := begin(t)
	var l, want []int
	for i := range 50 {
		x := a.atom(i)
		l = append(l, x, a.of(api.Hash, a.atom(1000+i)), x)
		want = append(want, l[3*i], l[3*i+1])
	}
	slices.Reverse(l)
	a.knows(l, want...)
}

// The numbers that are no term's.
func strange(a *term.Arena) []int {
	return []int{-1, a.Len(), a.Len() + 1, math.MaxInt, math.MinInt}
}

func TestNoSuchTerm(t *testing.T) {
	a := begin(t)
	x := a.atom(1)
	h := a.of(api.Hash, x)
	for _, l := range [][]int{nil, {x}, {h, x, h}} {
		for _, bad := range strange(a.Arena) {
			for i := range len(l) + 1 {
				refused(t, a.Arena, slices.Insert(slices.Clone(l), i, bad), x)
			}
			if is, e := deduce.Derives(a.Arena, l, bad); is || e != api.ErrArg {
				t.Errorf("%v, %d: got %v, %d", l, bad, is, e)
			}
		}
	}
	for _, none := range []*term.Arena{nil, term.New(), {}} {
		refused(t, none, []int{0}, 0)
		if l, e := deduce.Known(none, nil); len(l) != 0 || e != api.OK {
			t.Errorf("got %v, %d", l, e)
		}
		if is, e := deduce.Derives(none, nil, 0); is || e != api.ErrArg {
			t.Errorf("got %v, %d", is, e)
		}
		if l, e := deduce.Pattern(none, nil); len(l) != 0 || e != api.OK {
			t.Errorf("got %v, %d", l, e)
		}
		if is, e := deduce.Alike(none, nil, nil); !is || e != api.OK {
			t.Errorf("got %v, %d", is, e)
		}
	}
}

// refused holds that each call, asked of l, is ErrArg.
func refused(t *testing.T, a *term.Arena, l []int, goal int) {
	t.Helper()
	if got, e := deduce.Known(a, l); len(got) != 0 || e != api.ErrArg {
		t.Errorf("%v: got %v, %d", l, got, e)
	}
	if is, e := deduce.Derives(a, l, goal); is || e != api.ErrArg {
		t.Errorf("%v: got %v, %d", l, is, e)
	}
	if got, e := deduce.Pattern(a, l); len(got) != 0 || e != api.ErrArg {
		t.Errorf("%v: got %v, %d", l, got, e)
	}
	for _, m := range [][]int{nil, l} {
		if is, e := deduce.Alike(a, l, m); is || e != api.ErrArg {
			t.Errorf("%v, %v: got %v, %d", l, m, is, e)
		}
		if is, e := deduce.Alike(a, m, l); is || e != api.ErrArg {
			t.Errorf("%v, %v: got %v, %d", m, l, is, e)
		}
	}
}

// What is handed in stays as it is, and what was answered is the caller's own.
func TestOwnLists(t *testing.T) {
	a := begin(t)
	x := a.of(api.List, a.atom(1), a.of(api.Hash, a.atom(2)))
	l := []int{x, 0, x}
	known, _ := deduce.Known(a.Arena, l)
	deduce.Derives(a.Arena, l, 0)
	patterns, _ := deduce.Pattern(a.Arena, l)
	deduce.Alike(a.Arena, l, l)
	if !slices.Equal(l, []int{x, 0, x}) {
		t.Errorf("got %v", l)
	}
	before := slices.Clone(patterns)
	clear(l)
	clear(known)
	if !slices.Equal(patterns, before) {
		t.Errorf("got %q", patterns)
	}
	clear(patterns)
	if got := a.show(x); got[0] != "list(#1,hash(#2))" || a.Len() != 4 {
		t.Errorf("got %v, %d terms", got, a.Len())
	}
	a.knows([]int{x}, 0, 2, x)
}

// Nothing is kept from call to call: not what could be derived ahead, nor the numbers of patterns.
func TestNothingIsKept(t *testing.T) {
	a := begin(t)
	k, p := a.atom(1), a.atom(2)
	x := a.of(api.Enc, k, k, k, p)
	for range 2 {
		a.can([]int{x, k}, p)
		a.cannot([]int{x}, p)
		a.looks([]int{x, k}, "enc(atom#0,atom#0,atom#0,atom#1)", "atom#0")
		a.looks([]int{x}, "enc#0")
		a.looks([]int{p}, "atom#0")
	}
}

// As many terms as there may be, each one upon the one ahead.
func TestDeep(t *testing.T) {
	a := begin(t)
	x := a.atom(0)
	for a.Len() < api.MaxTerms {
		x = a.of(api.Hash, x)
	}
	a.can([]int{0}, x)
	a.cannot([]int{x}, 0, x-1)
	a.knows([]int{x}, x)
	if l, e := deduce.Known(a.Arena, []int{x, 0}); len(l) != api.MaxTerms || l[x] != x || e != api.OK {
		t.Errorf("got %d, %d", len(l), e)
	}
}

// As many terms as there may be, each of which opens the next one, in both orders.
func TestLongChainOfKeys(t *testing.T) {
	for _, down := range []bool{false, true} {
		a := begin(t)
		const keys = api.MaxTerms / 2
		for i := range keys {
			a.atom(i)
		}
		var l []int
		for i := range keys - 1 {
			from, to := i, i+1
			if down {
				from, to = keys-1-i, keys-2-i
			}
			l = append(l, a.of(api.Enc, from, from, from, to))
		}
		first, last := 0, keys-1
		if down {
			first, last = last, first
		}
		a.can(append(l, first), last)
		a.cannot(l, last)
		a.cannot(append(l[1:], first), last)
		slices.Reverse(l)
		a.can(append(l, first), last)
	}
}

// Terms of as many parts as there may be, at each of which stand the same ones.
func TestWide(t *testing.T) {
	a := begin(t)
	const width = api.MaxList
	for i := range width {
		a.atom(i)
	}
	l := make([]int, width)
	for i := range 2000 {
		for j := range l {
			l[j] = (i*j + j/7) % a.Len()
		}
		a.of(api.List, l...)
	}
	var atoms []int
	for i := range width {
		atoms = append(atoms, i)
	}
	a.can(atoms, a.Len()-1)
	a.cannot(atoms[1:], a.of(api.List, append(atoms[1:], a.Len()-1)...), 0)
}
