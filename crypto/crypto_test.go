package crypto_test

import (
	"math"
	"slices"
	"strings"
	"testing"

	"cassock/api"
	"cassock/crypto"
	"cassock/term"
)

// The terms of an arena that is begun.
const (
	one   = iota // the Atom 1
	two          // the Atom 2
	three        // the Atom 3
	word         // the Text "word"
	none         // the empty List
	pub          // the Pub of one
	begun        // how many there are
)

func node(op int, l ...int) api.Node { return api.Node{Op: op, L: l} }

func atom(n int) api.Node { return api.Node{Op: api.Atom, N: n} }

func text(s string) api.Node { return api.Node{Op: api.Text, S: s} }

func same(n, m api.Node) bool {
	return n.Op == m.Op && n.N == m.N && n.S == m.S && slices.Equal(n.L, m.L)
}

// must is a term that is made without an error.
func must(t *testing.T, x int, e api.Errno) int {
	t.Helper()
	if e != api.OK {
		t.Fatalf("got %d", e)
	}
	return x
}

func mustMake(t *testing.T, a *term.Arena, n api.Node) int {
	t.Helper()
	x, e := a.Make(n)
	if e != api.OK {
		t.Fatalf("%v: got %d", n, e)
	}
	return x
}

func begin(t *testing.T) *term.Arena {
	t.Helper()
	a := term.New()
	for i, n := range []api.Node{atom(1), atom(2), atom(3), text("word"), node(api.List), node(api.Pub, one)} {
		if x := mustMake(t, a, n); x != i {
			t.Fatalf("%v: got %d", n, x)
		}
	}
	return a
}

// fill makes terms that no test asks for, up to left ones fewer than there may be.
func fill(t *testing.T, a *term.Arena, left int) {
	t.Helper()
	for n := 1000000; a.Len() < api.MaxTerms-left; n++ {
		mustMake(t, a, atom(n))
	}
}

// one of each kind, made in a, of the terms that it was begun with.
func kinds(t *testing.T, a *term.Arena) map[int]int {
	t.Helper()
	l := map[int]int{api.Atom: one, api.Text: word, api.List: none, api.Pub: pub}
	for _, n := range []api.Node{node(api.Hash, one), node(api.Mix, one, word), node(api.Key, one, word, none), node(api.Seal, pub, word, two, three), node(api.Enc, one, two, word, three), node(api.Sig, one, word), node(api.Mac, one, word), node(api.Blind, word, two)} {
		l[n.Op] = mustMake(t, a, n)
	}
	return l
}

// made are the calls that make a term, each of so many places at which a term is handed over: what it is called with in these tests, and the node that it makes.
var made = []struct {
	name  string
	good  []int
	call  func(a *term.Arena, l []int) (int, api.Errno)
	makes func(a *term.Arena, l []int) []api.Node // in order, for an arena that is begun
}{
	{"Extract", []int{one, two}, func(a *term.Arena, l []int) (int, api.Errno) { return crypto.Extract(a, l[0], l[1]) },
		func(a *term.Arena, l []int) []api.Node { return []api.Node{node(api.Mix, l[0], l[1])} }},
	{"Expand", []int{one, two}, func(a *term.Arena, l []int) (int, api.Errno) { return crypto.Expand(a, l[0], "new", l[1]) },
		func(a *term.Arena, l []int) []api.Node {
			return []api.Node{text("new"), node(api.Key, l[0], a.Len(), l[1])}
		}},
	{"Expand of a Text", []int{one, two}, func(a *term.Arena, l []int) (int, api.Errno) { return crypto.Expand(a, l[0], "word", l[1]) },
		func(a *term.Arena, l []int) []api.Node { return []api.Node{node(api.Key, l[0], word, l[1])} }},
	{"Derive", []int{one}, func(a *term.Arena, l []int) (int, api.Errno) { return crypto.Derive(a, l[0], "new") },
		func(a *term.Arena, l []int) []api.Node {
			return []api.Node{text("new"), node(api.Key, l[0], a.Len(), none)}
		}},
	{"Derive of a Text", []int{one}, func(a *term.Arena, l []int) (int, api.Errno) { return crypto.Derive(a, l[0], "word") },
		func(a *term.Arena, l []int) []api.Node { return []api.Node{node(api.Key, l[0], word, none)} }},
	{"Public", []int{two}, func(a *term.Arena, l []int) (int, api.Errno) { return crypto.Public(a, l[0]) },
		func(a *term.Arena, l []int) []api.Node { return []api.Node{node(api.Pub, l[0])} }},
	{"Seal", []int{pub, word, two, three}, func(a *term.Arena, l []int) (int, api.Errno) { return crypto.Seal(a, l[0], l[1], l[2], l[3]) },
		func(a *term.Arena, l []int) []api.Node { return []api.Node{node(api.Seal, l...)} }},
	{"Lock", []int{one, two, word, three}, func(a *term.Arena, l []int) (int, api.Errno) { return crypto.Lock(a, l[0], l[1], l[2], l[3]) },
		func(a *term.Arena, l []int) []api.Node { return []api.Node{node(api.Enc, l...)} }},
	{"Sign", []int{one, word}, func(a *term.Arena, l []int) (int, api.Errno) { return crypto.Sign(a, l[0], l[1]) },
		func(a *term.Arena, l []int) []api.Node { return []api.Node{node(api.Sig, l...)} }},
	{"Tag", []int{one, word}, func(a *term.Arena, l []int) (int, api.Errno) { return crypto.Tag(a, l[0], l[1]) },
		func(a *term.Arena, l []int) []api.Node { return []api.Node{node(api.Mac, l...)} }},
	{"Blind", []int{word, two}, func(a *term.Arena, l []int) (int, api.Errno) { return crypto.Blind(a, l[0], l[1]) },
		func(a *term.Arena, l []int) []api.Node { return []api.Node{node(api.Blind, l...)} }},
	{"All", []int{two, word, two}, func(a *term.Arena, l []int) (int, api.Errno) { return crypto.All(a, l...) },
		func(a *term.Arena, l []int) []api.Node { return []api.Node{node(api.List, l...)} }},
}

// The example of the chapter.
func TestExample(t *testing.T) {
	a := term.New()
	sk, other := mustMake(t, a, atom(1)), mustMake(t, a, atom(2))
	aad, plain := mustMake(t, a, text("aad")), mustMake(t, a, text("plain"))
	pk, e := crypto.Public(a, sk)
	must(t, pk, e)
	x, e := crypto.Seal(a, pk, aad, plain, other)
	must(t, x, e)
	if got, e := crypto.Open(a, sk, aad, x); got != plain || e != api.OK {
		t.Errorf("got %d, %d", got, e)
	}
	if got, e := crypto.Open(a, other, aad, x); got != 0 || e != api.ErrOpen {
		t.Errorf("got %d, %d", got, e)
	}
}

// Each call makes what the chapter says, in that order, and nothing else; again, it is the same term, and nothing more.
func TestEachMakes(t *testing.T) {
	for _, c := range made {
		a := begin(t)
		want := c.makes(a, c.good)
		last := begun + len(want) - 1
		for range 2 {
			if x, e := c.call(a, c.good); x != last || e != api.OK || a.Len() != last+1 {
				t.Errorf("%s: got %d, %d, %d terms", c.name, x, e, a.Len())
			}
		}
		for i, n := range want {
			if m, e := a.Node(begun + i); !same(n, m) || e != api.OK {
				t.Errorf("%s: got %v, %d, not %v", c.name, m, e, n)
			}
		}
	}
}

// Each part is the one that was handed over at its place.
func TestEachPlace(t *testing.T) {
	for _, c := range made {
		for i := range c.good {
			if c.name == "Seal" && i == 0 {
				continue
			}
			for x := range begun {
				a := begin(t)
				l := slices.Clone(c.good)
				l[i] = x
				want := c.makes(a, l)
				got, e := c.call(a, l)
				n, _ := a.Node(got)
				if e != api.OK || !same(n, want[len(want)-1]) {
					t.Errorf("%s%v: got %v, %d", c.name, l, n, e)
				}
			}
		}
	}
}

func TestFresh(t *testing.T) {
	a := term.New()
	for i, n := range []int{0, 1, 7, math.MaxInt} {
		for range 2 {
			if x, e := crypto.Fresh(a, n); x != i || e != api.OK || a.Len() != i+1 {
				t.Errorf("%d: got %d, %d", n, x, e)
			}
		}
		if m, _ := a.Node(i); !same(m, atom(n)) {
			t.Errorf("%d: got %v", n, m)
		}
	}
	for _, n := range []int{-1, -7, math.MinInt} {
		if x, e := crypto.Fresh(a, n); x != 0 || e != api.ErrArg || a.Len() != 4 {
			t.Errorf("%d: got %d, %d", n, x, e)
		}
	}
}

func TestAll(t *testing.T) {
	a := begin(t)
	if x, e := crypto.All(a); x != none || e != api.OK {
		t.Errorf("got %d, %d", x, e)
	}
	if x, e := crypto.All(a, []int{}...); x != none || e != api.OK {
		t.Errorf("got %d, %d", x, e)
	}
	l := make([]int, api.MaxList)
	if x, e := crypto.All(a, l...); x != begun || e != api.OK {
		t.Errorf("got %d, %d", x, e)
	}
	if x, e := crypto.All(a, make([]int, api.MaxList+1)...); x != 0 || e != api.ErrArg {
		t.Errorf("got %d, %d", x, e)
	}
	// Whoever handed it in may write into it.
	l[5] = word
	if n, _ := a.Node(begun); !slices.Equal(n.L, make([]int, api.MaxList)) || a.Len() != begun+1 {
		t.Errorf("got %v", n.L)
	}
	memory := []int{two, one, three}
	if x, e := crypto.All(a, memory[:2]...); x != begun+1 || e != api.OK || !slices.Equal(memory, []int{two, one, three}) {
		t.Errorf("got %d, %d, %v", x, e, memory)
	}
}

// strange are numbers that are no term of a.
func strange(a *term.Arena) []int {
	return []int{-1, -2, a.Len(), a.Len() + 1, a.Len() + 2, 999, api.MaxTerms, math.MinInt, math.MaxInt}
}

func TestMakeOfNoSuchTerm(t *testing.T) {
	for _, c := range made {
		for i := range c.good {
			for _, bad := range strange(begin(t)) {
				a := begin(t)
				l := slices.Clone(c.good)
				l[i] = bad
				if x, e := c.call(a, l); x != 0 || e != api.ErrArg {
					t.Errorf("%s%v: got %d, %d", c.name, l, x, e)
				}
				// What is on the way is made, and nothing else.
				ahead := c.makes(begin(t), c.good)
				ahead = ahead[:len(ahead)-1]
				if a.Len() != begun+len(ahead) {
					t.Errorf("%s%v: %d terms", c.name, l, a.Len())
				}
				for j, n := range ahead {
					if m, _ := a.Node(begun + j); !same(n, m) {
						t.Errorf("%s%v: got %v, not %v", c.name, l, m, n)
					}
				}
			}
		}
	}
}

// What is made on the way may take the number of what was no term when it was handed over: it is none all the same.
func TestNoSuchTermYet(t *testing.T) {
	for _, l := range [][2]int{{1, 0}, {0, 1}, {1, 1}, {2, 0}} {
		a := term.New()
		mustMake(t, a, atom(1))
		if x, e := crypto.Expand(a, l[0], "new", l[1]); x != 0 || e != api.ErrArg {
			t.Errorf("%v: got %d, %d", l, x, e)
		}
		if n, _ := a.Node(1); !same(n, text("new")) || a.Len() != 2 {
			t.Errorf("%v: got %v, %d terms", l, n, a.Len())
		}
	}
	for _, secret := range []int{1, 2, 3, -1} {
		a := term.New()
		mustMake(t, a, atom(1))
		if x, e := crypto.Derive(a, secret, "new"); x != 0 || e != api.ErrArg {
			t.Errorf("%d: got %d, %d", secret, x, e)
		}
		list, _ := a.Node(1)
		label, _ := a.Node(2)
		if !same(list, node(api.List)) || !same(label, text("new")) || a.Len() != 3 {
			t.Errorf("%d: got %v, %v, %d terms", secret, list, label, a.Len())
		}
	}
	// The same number is a term the next time.
	a := term.New()
	mustMake(t, a, atom(1))
	crypto.Expand(a, 1, "new", 0)
	if x, e := crypto.Expand(a, 1, "new", 0); x != 2 || e != api.OK {
		t.Errorf("got %d, %d", x, e)
	}
}

func TestLabels(t *testing.T) {
	for _, s := range []string{"", "x", "\"\\\x00", strings.Repeat("x", api.MaxText), strings.Repeat("é", api.MaxText/2)} {
		a := term.New()
		secret := mustMake(t, a, atom(1))
		if x, e := crypto.Derive(a, secret, s); x != 3 || e != api.OK || a.Len() != 4 {
			t.Errorf("%q: got %d, %d", s, x, e)
		}
		for i, want := range []api.Node{atom(1), node(api.List), text(s), node(api.Key, 0, 2, 1)} {
			if n, _ := a.Node(i); !same(n, want) {
				t.Errorf("%q: got %v", s, n)
			}
		}
		if x, e := crypto.Expand(a, secret, s, 1); x != 3 || e != api.OK || a.Len() != 4 {
			t.Errorf("%q: got %d, %d", s, x, e)
		}
	}
	for _, s := range []string{strings.Repeat("x", api.MaxText+1), strings.Repeat("é", api.MaxText/2+1), strings.Repeat("x", 1<<20)} {
		for _, secret := range []int{0, 1, -1} {
			a := term.New()
			mustMake(t, a, atom(1))
			if x, e := crypto.Expand(a, secret, s, 0); x != 0 || e != api.ErrArg || a.Len() != 1 {
				t.Errorf("%d: got %d, %d, %d terms", secret, x, e, a.Len())
			}
			// The List is made ahead of the label's error.
			if x, e := crypto.Derive(a, secret, s); x != 0 || e != api.ErrArg || a.Len() != 2 {
				t.Errorf("%d: got %d, %d, %d terms", secret, x, e, a.Len())
			}
			if n, _ := a.Node(1); !same(n, node(api.List)) {
				t.Errorf("%d: got %v", secret, n)
			}
		}
	}
}

func TestSealToNoPub(t *testing.T) {
	a := begin(t)
	all := kinds(t, a)
	before := a.Len()
	for op, pk := range all {
		if op == api.Pub {
			continue
		}
		for _, l := range [][3]int{{word, two, three}, {-1, two, three}, {word, 999, three}, {word, two, -1}} {
			if x, e := crypto.Seal(a, pk, l[0], l[1], l[2]); x != 0 || e != api.ErrArg || a.Len() != before {
				t.Errorf("%d, %v: got %d, %d", op, l, x, e)
			}
		}
	}
	// Of which secret key does not matter, nor whether there is one that was drawn.
	for _, sk := range []int{two, word, none, pub, all[api.Mix]} {
		pk, e := crypto.Public(a, sk)
		must(t, pk, e)
		x, e := crypto.Seal(a, pk, word, two, three)
		if n, _ := a.Node(x); e != api.OK || !same(n, node(api.Seal, pk, word, two, three)) {
			t.Errorf("%d: got %v, %d", sk, n, e)
		}
	}
}

// Where there are as many terms as there may be, what is new is ErrLong, what there is is found, and what may not be is ErrArg.
func TestFullArena(t *testing.T) {
	a := begin(t)
	fill(t, a, 0)
	for _, c := range made {
		if x, e := c.call(a, c.good); x != 0 || e != api.ErrLong {
			t.Errorf("%s: got %d, %d", c.name, x, e)
		}
		for i := range c.good {
			l := slices.Clone(c.good)
			l[i] = api.MaxTerms
			if x, e := c.call(a, l); x != 0 || e != api.ErrArg {
				t.Errorf("%s%v: got %d, %d", c.name, l, x, e)
			}
		}
	}
	for i, e := range []api.Errno{second(crypto.Fresh(a, -1)), second(crypto.Seal(a, one, word, two, three)), second(crypto.Expand(a, one, strings.Repeat("x", 201), two)), second(crypto.Derive(a, one, strings.Repeat("x", 201)))} {
		if e != api.ErrArg {
			t.Errorf("%d: got %d", i, e)
		}
	}
	if x, e := crypto.Fresh(a, 4); x != 0 || e != api.ErrLong {
		t.Errorf("got %d, %d", x, e)
	}
	for i, e := range []api.Errno{second(crypto.Fresh(a, 1)), second(crypto.Public(a, one)), second(crypto.All(a))} {
		if e != api.OK {
			t.Errorf("%d: got %d", i, e)
		}
	}
}

// What is on the way is made, also where there is no place for what it is made for.
func TestAlmostFullArena(t *testing.T) {
	for left, want := range []struct {
		e     api.Errno
		terms []api.Node
	}{
		{api.ErrLong, nil},
		{api.ErrLong, []api.Node{text("new")}},
		{api.OK, []api.Node{text("new"), node(api.Key, one, api.MaxTerms-2, none)}},
	} {
		a, b := begin(t), begin(t)
		fill(t, a, left)
		fill(t, b, left)
		if e := second(crypto.Expand(a, one, "new", none)); e != want.e {
			t.Errorf("%d: got %d", left, e)
		}
		if e := second(crypto.Derive(b, one, "new")); e != want.e {
			t.Errorf("%d: got %d", left, e)
		}
		behind(t, a, left, want.terms)
		behind(t, b, left, want.terms)
	}
	// Of Derive the List takes the first place.
	for left, want := range [][]api.Node{{}, {node(api.List)}, {node(api.List), text("new")}} {
		a := term.New()
		mustMake(t, a, atom(1))
		fill(t, a, left)
		if x, e := crypto.Derive(a, 0, "new"); x != 0 || e != api.ErrLong {
			t.Errorf("%d: got %d, %d", left, x, e)
		}
		behind(t, a, left, want)
	}
}

// Without place for the List there is no Key of it, though the label is there, and a Key of it with another context.
func TestDeriveWithoutList(t *testing.T) {
	a := term.New()
	for _, n := range []api.Node{atom(1), text("new"), node(api.Key, 0, 1, 0)} {
		mustMake(t, a, n)
	}
	fill(t, a, 0)
	if x, e := crypto.Derive(a, 0, "new"); x != 0 || e != api.ErrLong {
		t.Errorf("got %d, %d", x, e)
	}
	if x, e := crypto.Expand(a, 0, "new", 0); x != 2 || e != api.OK {
		t.Errorf("got %d, %d", x, e)
	}
}

// behind tells whether, where left terms were fewer than there may be, just these came.
func behind(t *testing.T, a *term.Arena, left int, want []api.Node) {
	t.Helper()
	if a.Len() != api.MaxTerms-left+len(want) {
		t.Errorf("%d: %d terms", left, a.Len())
	}
	for i, n := range want {
		if m, _ := a.Node(api.MaxTerms - left + i); !same(n, m) {
			t.Errorf("%d: got %v, not %v", left, m, n)
		}
	}
}

// second is an answer's error.
func second(_ int, e api.Errno) api.Errno { return e }
