package crypto_test

import (
	"math"
	"slices"
	"testing"

	"cassock/api"
	"cassock/crypto"
	"cassock/term"
)

// opened are the calls that open, what each one is called with in these tests, and the node that it makes of what (or none).
var opened = []struct {
	name  string
	good  func(t *testing.T, a *term.Arena) []int
	call  func(a *term.Arena, l []int) (int, api.Errno)
	plain api.Node
	makes int
}{
	{"Open", func(t *testing.T, a *term.Arena) []int {
		return []int{one, word, mustMake(t, a, node(api.Seal, pub, word, two, three))}
	}, func(a *term.Arena, l []int) (int, api.Errno) { return crypto.Open(a, l[0], l[1], l[2]) }, atom(2), 0},
	{"Unlock", func(t *testing.T, a *term.Arena) []int {
		return []int{one, two, word, mustMake(t, a, node(api.Enc, one, two, word, three))}
	}, func(a *term.Arena, l []int) (int, api.Errno) { return crypto.Unlock(a, l[0], l[1], l[2], l[3]) }, atom(3), 0},
	{"Unblind", func(t *testing.T, a *term.Arena) []int {
		return []int{mustMake(t, a, node(api.Sig, one, mustMake(t, a, node(api.Blind, word, two)))), two}
	}, func(a *term.Arena, l []int) (int, api.Errno) { return crypto.Unblind(a, l[0], l[1]) }, node(api.Sig, one, word), 1},
}

// told are the calls that tell whether, and what each one is called with.
var told = []struct {
	name string
	good func(t *testing.T, a *term.Arena) []int
	call func(a *term.Arena, l []int) bool
}{
	{"Verify", func(t *testing.T, a *term.Arena) []int {
		return []int{pub, word, mustMake(t, a, node(api.Sig, one, word))}
	}, func(a *term.Arena, l []int) bool { return crypto.Verify(a, l[0], l[1], l[2]) }},
	{"Check", func(t *testing.T, a *term.Arena) []int {
		return []int{one, word, mustMake(t, a, node(api.Mac, one, word))}
	}, func(a *term.Arena, l []int) bool { return crypto.Check(a, l[0], l[1], l[2]) }},
}

func TestEachOpens(t *testing.T) {
	for _, c := range opened {
		a := begin(t)
		l := c.good(t, a)
		before := a.Len()
		for range 2 {
			x, e := c.call(a, l)
			if n, _ := a.Node(x); e != api.OK || !same(n, c.plain) || a.Len() != before+c.makes {
				t.Errorf("%s: got %v, %d, %d terms more", c.name, n, e, a.Len()-before)
			}
		}
	}
	for _, c := range told {
		a := begin(t)
		l := c.good(t, a)
		before := a.Len()
		if !c.call(a, l) || a.Len() != before {
			t.Errorf("%s: %d terms more", c.name, a.Len()-before)
		}
	}
}

// With other terms at one place, or at two, of whatever kind, none opens, and nothing is made.
func TestNoOtherOpens(t *testing.T) {
	for _, c := range opened {
		a := begin(t)
		l := c.good(t, a)
		kinds(t, a)
		before := a.Len()
		for _, m := range others(l, before) {
			if x, e := c.call(a, m); x != 0 || e != api.ErrOpen || a.Len() != before {
				t.Errorf("%s%v: got %d, %d, %d terms more", c.name, m, x, e, a.Len()-before)
			}
		}
	}
	for _, c := range told {
		a := begin(t)
		l := c.good(t, a)
		kinds(t, a)
		before := a.Len()
		for _, m := range others(l, before) {
			if c.call(a, m) || a.Len() != before {
				t.Errorf("%s%v: %d terms more", c.name, m, a.Len()-before)
			}
		}
	}
}

// others are all lists of terms that differ from l at one place, or at two.
func others(l []int, terms int) [][]int {
	var all [][]int
	for i := range l {
		for j := range i + 1 {
			for x := range terms {
				for y := range terms {
					m := slices.Clone(l)
					m[i], m[j] = x, y
					if !slices.Equal(l, m) {
						all = append(all, m)
					}
				}
			}
		}
	}
	return all
}

func TestOpenOfNoSuchTerm(t *testing.T) {
	for _, c := range opened {
		a := begin(t)
		l := c.good(t, a)
		before := a.Len()
		for _, wrong := range []bool{false, true} { // it is ErrArg, also where it would be ErrOpen
			for i := range l {
				for _, bad := range strange(a) {
					m := slices.Clone(l)
					if wrong {
						m = slices.Repeat([]int{none}, len(l))
					}
					m[i] = bad
					if x, e := c.call(a, m); x != 0 || e != api.ErrArg || a.Len() != before {
						t.Errorf("%s%v: got %d, %d", c.name, m, x, e)
					}
				}
			}
		}
	}
	for _, c := range told {
		a := begin(t)
		l := c.good(t, a)
		for i := range l {
			for _, bad := range strange(a) {
				m := slices.Clone(l)
				m[i] = bad
				if c.call(a, m) {
					t.Errorf("%s%v", c.name, m)
				}
			}
		}
	}
}

// A term of another kind, with the very parts that the one that is wanted would have.
func TestAnotherKind(t *testing.T) {
	a := begin(t)
	hash := mustMake(t, a, node(api.Hash, one)) // as a Pub of one, but none
	blind := mustMake(t, a, node(api.Blind, word, two))
	mix := mustMake(t, a, node(api.Mix, word, two))
	for i, e := range []api.Errno{
		second(crypto.Open(a, one, word, mustMake(t, a, node(api.Enc, pub, word, two, three)))),
		second(crypto.Open(a, one, word, mustMake(t, a, node(api.List, pub, word, two, three)))),
		second(crypto.Open(a, one, word, mustMake(t, a, node(api.Seal, hash, word, two, three)))),
		second(crypto.Open(a, one, word, mustMake(t, a, node(api.Seal, one, word, two, three)))),
		second(crypto.Open(a, one, word, mustMake(t, a, node(api.Seal, word, word, two, three)))),
		second(crypto.Unlock(a, one, two, word, mustMake(t, a, node(api.Seal, one, two, word, three)))),
		second(crypto.Unlock(a, one, two, word, mustMake(t, a, node(api.List, one, two, word, three)))),
		second(crypto.Unblind(a, mustMake(t, a, node(api.Mac, one, blind)), two)),
		second(crypto.Unblind(a, mustMake(t, a, node(api.List, one, blind)), two)),
		second(crypto.Unblind(a, mustMake(t, a, node(api.Blind, one, blind)), two)),
		second(crypto.Unblind(a, mustMake(t, a, node(api.Sig, one, mix)), two)),
		second(crypto.Unblind(a, mustMake(t, a, node(api.Sig, blind, one)), two)),
		second(crypto.Unblind(a, blind, two)),
	} {
		if e != api.ErrOpen {
			t.Errorf("%d: got %d", i, e)
		}
	}
	for i, is := range []bool{
		crypto.Verify(a, pub, word, mustMake(t, a, node(api.Mac, one, word))),
		crypto.Verify(a, pub, word, mustMake(t, a, node(api.List, one, word))),
		crypto.Verify(a, pub, word, mustMake(t, a, node(api.Sig, pub, word))),
		crypto.Verify(a, hash, word, mustMake(t, a, node(api.Sig, one, word))),
		crypto.Verify(a, one, word, mustMake(t, a, node(api.Sig, one, word))),
		crypto.Check(a, one, word, mustMake(t, a, node(api.Sig, one, word))),
		crypto.Check(a, one, word, mustMake(t, a, node(api.Mix, one, word))),
		crypto.Check(a, pub, word, mustMake(t, a, node(api.Mac, one, word))),
	} {
		if is {
			t.Errorf("%d", i)
		}
	}
}

// Where a term has fewer parts than are looked at, or is of another kind, the number 0 stands for none: no term 0 is taken for it.
func TestNumberZero(t *testing.T) {
	a := begin(t)
	for x := range begun {
		if _, e := crypto.Open(a, 0, 0, x); e != api.ErrOpen {
			t.Errorf("%d: got %d", x, e)
		}
		if _, e := crypto.Unlock(a, 0, 0, 0, x); e != api.ErrOpen {
			t.Errorf("%d: got %d", x, e)
		}
		if _, e := crypto.Unblind(a, x, 0); e != api.ErrOpen {
			t.Errorf("%d: got %d", x, e)
		}
		if crypto.Verify(a, x, 0, x) || crypto.Verify(a, pub, 0, x) || crypto.Check(a, 0, 0, x) {
			t.Errorf("%d", x)
		}
	}
	// Term 0 at each place.
	key := mustMake(t, a, node(api.Pub, 0))
	for i, e := range []api.Errno{
		second(crypto.Open(a, 0, 0, mustMake(t, a, node(api.Seal, key, 0, 0, 0)))),
		second(crypto.Unlock(a, 0, 0, 0, mustMake(t, a, node(api.Enc, 0, 0, 0, 0)))),
		second(crypto.Unblind(a, mustMake(t, a, node(api.Sig, 0, mustMake(t, a, node(api.Blind, 0, 0)))), 0)),
	} {
		if e != api.OK {
			t.Errorf("%d: got %d", i, e)
		}
	}
	if !crypto.Verify(a, key, 0, mustMake(t, a, node(api.Sig, 0, 0))) || !crypto.Check(a, 0, 0, mustMake(t, a, node(api.Mac, 0, 0))) {
		t.Error("Verify")
	}
}

// Open, Unlock, Verify and Check of what no call of the package made: no Pub is there, and none is made.
func TestOpenMakesNoPub(t *testing.T) {
	a := begin(t)
	if crypto.Verify(a, two, word, mustMake(t, a, node(api.Sig, two, word))) {
		t.Error("Verify")
	}
	x := mustMake(t, a, node(api.Seal, pub, word, two, three))
	before := a.Len()
	if _, e := crypto.Open(a, two, word, x); e != api.ErrOpen || a.Len() != before {
		t.Errorf("got %d, %d terms more", e, a.Len()-before)
	}
}

// What is unblinded is made, or found.
func TestUnblindMakes(t *testing.T) {
	a := begin(t)
	blind, e := crypto.Blind(a, word, two)
	must(t, blind, e)
	sig, e := crypto.Sign(a, one, blind)
	must(t, sig, e)
	x, e := crypto.Unblind(a, sig, two)
	if n, _ := a.Node(x); e != api.OK || x != sig+1 || !same(n, node(api.Sig, one, word)) {
		t.Errorf("got %d, %d", x, e)
	}
	if y, e := crypto.Unblind(a, sig, two); y != x || e != api.OK {
		t.Errorf("got %d, %d", y, e)
	}
	// What was blinded twice is unblinded once at a time.
	twice := mustMake(t, a, node(api.Sig, one, mustMake(t, a, node(api.Blind, blind, three))))
	if y, e := crypto.Unblind(a, twice, three); y != sig || e != api.OK {
		t.Errorf("got %d, %d", y, e)
	}
	if _, e := crypto.Unblind(a, twice, two); e != api.ErrOpen {
		t.Errorf("got %d", e)
	}
}

func TestOpenInFullArena(t *testing.T) {
	a := begin(t)
	var with [][]int
	for _, c := range opened {
		with = append(with, c.good(t, a))
	}
	sig := mustMake(t, a, node(api.Sig, two, mustMake(t, a, node(api.Blind, word, two))))
	mustMake(t, a, node(api.Sig, one, word))
	fill(t, a, 0)
	for i, c := range opened {
		x, e := c.call(a, with[i])
		if n, _ := a.Node(x); e != api.OK || !same(n, c.plain) {
			t.Errorf("%s: got %v, %d", c.name, n, e)
		}
	}
	if x, e := crypto.Unblind(a, sig, two); x != 0 || e != api.ErrLong {
		t.Errorf("got %d, %d", x, e)
	}
	if x, e := crypto.Unblind(a, sig, one); x != 0 || e != api.ErrOpen {
		t.Errorf("got %d, %d", x, e)
	}
	if x, e := crypto.Unblind(a, sig, api.MaxTerms); x != 0 || e != api.ErrArg {
		t.Errorf("got %d, %d", x, e)
	}
}

// Of many keys, messages and what stands beside, what was made with some opens with just these.
func TestWhatFollows(t *testing.T) {
	a := term.New()
	var keys []int
	for n := range 3 {
		x, e := crypto.Fresh(a, n)
		keys = append(keys, must(t, x, e))
	}
	for _, label := range []string{"a", "b"} {
		x, e := crypto.Derive(a, keys[0], label)
		keys = append(keys, must(t, x, e))
	}
	messages := slices.Clone(keys)
	for _, s := range []string{"", "m"} {
		messages = append(messages, mustMake(t, a, text(s)))
	}
	for _, k := range keys {
		for _, m := range messages {
			follows(t, a, keys, messages, k, m)
		}
	}
}

func follows(t *testing.T, a *term.Arena, keys, messages []int, k, m int) {
	t.Helper()
	pk, e := crypto.Public(a, k)
	must(t, pk, e)
	sealed, e := crypto.Seal(a, pk, m, messages[0], k)
	must(t, sealed, e)
	locked, e := crypto.Lock(a, k, keys[1], m, messages[1])
	must(t, locked, e)
	sig, e := crypto.Sign(a, k, m)
	must(t, sig, e)
	tag, e := crypto.Tag(a, k, m)
	must(t, tag, e)
	blind, e := crypto.Blind(a, m, k)
	must(t, blind, e)
	blinded, e := crypto.Sign(a, keys[2], blind)
	must(t, blinded, e)
	for _, l := range keys {
		other, e := crypto.Public(a, l)
		must(t, other, e)
		for _, n := range messages {
			want, plain, locks := api.ErrOpen, 0, 0
			if k == l && m == n {
				want, plain, locks = api.OK, messages[0], messages[1]
			}
			if x, e := crypto.Open(a, l, n, sealed); x != plain || e != want {
				t.Errorf("Open: got %d, %d", x, e)
			}
			if x, e := crypto.Unlock(a, l, keys[1], n, locked); x != locks || e != want {
				t.Errorf("Unlock: got %d, %d", x, e)
			}
			if crypto.Verify(a, other, n, sig) != (want == api.OK) || crypto.Check(a, l, n, tag) != (want == api.OK) {
				t.Error("Verify")
			}
		}
		x, e := crypto.Unblind(a, blinded, l)
		signer, _ := crypto.Public(a, keys[2])
		if l == k && (e != api.OK || !crypto.Verify(a, signer, m, x)) || l != k && e != api.ErrOpen {
			t.Errorf("Unblind: got %d, %d", x, e)
		}
	}
}

// No call panics, of no arena, too.
func TestNoArena(t *testing.T) {
	for _, c := range made {
		if x, e := c.call(nil, c.good); x != 0 || e != api.ErrArg {
			t.Errorf("%s: got %d, %d", c.name, x, e)
		}
	}
	for _, c := range opened {
		if x, e := c.call(nil, []int{0, 0, 0, 0}); x != 0 || e != api.ErrArg {
			t.Errorf("%s: got %d, %d", c.name, x, e)
		}
	}
	for _, c := range told {
		if c.call(nil, []int{0, 0, 0}) {
			t.Error(c.name)
		}
	}
	for _, n := range []int{0, 1, math.MinInt} {
		if x, e := crypto.Fresh(nil, n); x != 0 || e != api.ErrArg {
			t.Errorf("%d: got %d, %d", n, x, e)
		}
	}
}
