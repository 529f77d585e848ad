package deduce_test

import (
	"slices"
	"strconv"
	"strings"
	"testing"

	"cassock/api"
	"cassock/deduce"
)

// looks holds that l has these patterns.
func (a arena) looks(l []int, want ...string) {
	a.t.Helper()
	terms := a.Len()
	got, e := deduce.Pattern(a.Arena, l)
	if !slices.Equal(got, want) || e != api.OK || a.Len() != terms {
		a.t.Errorf("%v: got %q, %d, not %q; %d terms more", a.show(l...), got, e, want, a.Len()-terms)
	}
}

// alike holds whether l and m look the same, asked either way round.
func (a arena) alike(want bool, l, m []int) {
	a.t.Helper()
	terms := a.Len()
	for range 2 {
		if is, e := deduce.Alike(a.Arena, l, m); is != want || e != api.OK || a.Len() != terms {
			a.t.Errorf("%v, %v: got %v, %d; %d terms more", a.show(l...), a.show(m...), is, e, a.Len()-terms)
		}
		l, m = m, l
	}
}

var names = map[int]string{api.List: "list", api.Hash: "hash", api.Mix: "mix", api.Key: "key", api.Pub: "pub", api.Seal: "seal", api.Enc: "enc", api.Sig: "sig", api.Mac: "mac", api.Blind: "blind"}

// A term of any kind whose parts can't be derived shows its name and number, but a List, and the message of a Sig.
func TestPatternsOfClosed(t *testing.T) {
	for op, name := range names {
		a := begin(t)
		x, _ := a.one(op)
		want := name + "#0"
		switch op {
		case api.List:
			want = "list(atom#0,atom#1,atom#2)"
		case api.Sig:
			want = "sig#0(atom#1)"
		}
		a.looks([]int{x}, want)
		a.looks([]int{x, a.atom(7), x}, want, "atom#"+strconv.Itoa(strings.Count(want, "#")), want)
	}
}

// One whose parts can all be derived shows them.
func TestPatternsOfOpen(t *testing.T) {
	for op, name := range names {
		a := begin(t)
		x, atoms := a.one(op)
		var parts, rest []string
		for i := range kinds[op] {
			parts = append(parts, "atom#"+strconv.Itoa(i))
		}
		if op == api.Key {
			parts = []string{"atom#0", `"label"`, "atom#1"}
		}
		for i := range atoms {
			rest = append(rest, "atom#"+strconv.Itoa(i))
		}
		whole := name + "(" + strings.Join(parts, ",") + ")"
		a.looks(append([]int{x}, atoms...), append([]string{whole}, rest...)...)
		a.looks(append(slices.Clone(atoms), x), append(rest, whole)...)
	}
}

// Of a kind with an Atom fewer than all its parts, only what is opened shows.
func TestPatternsOfHalfOpen(t *testing.T) {
	a := begin(t)
	k, n, x, p := a.atom(1), a.atom(2), a.atom(3), a.atom(4)
	none := a.word("")
	a.looks([]int{a.of(api.Mix, k, n), k}, "mix#0", "atom#1")
	a.looks([]int{a.of(api.Mix, k, n), n}, "mix#0", "atom#1")
	a.looks([]int{a.of(api.Mac, k, none)}, "mac#0")
	a.looks([]int{a.of(api.Enc, k, n, x, p), n, x, p}, "enc#0", "atom#1", "atom#2", "atom#3")
	a.looks([]int{a.of(api.Enc, k, n, x, p), k}, "enc(atom#0,atom#1,atom#2,atom#3)", "atom#0")
	a.looks([]int{a.of(api.Blind, k, n), k}, "blind#0", "atom#1")
	a.looks([]int{a.of(api.Blind, k, n), n}, "blind(atom#0,atom#1)", "atom#1")
	a.looks([]int{a.of(api.Sig, k, n), k}, "sig(atom#0,atom#1)", "atom#0")
	a.looks([]int{a.of(api.Pub, k), n}, "pub#0", "atom#1")
	a.looks([]int{a.of(api.Hash, none), a.of(api.List), none}, `hash("")`, "list()", `""`)
}

func TestPatternsOfSeals(t *testing.T) {
	a := begin(t)
	sk, aad, plain, draw := a.atom(1), a.atom(2), a.atom(3), a.atom(4)
	pk := a.of(api.Pub, sk)
	x := a.of(api.Seal, pk, aad, plain, draw)
	a.looks([]int{x}, "seal#0")
	a.looks([]int{x, pk, aad}, "seal#0", "pub#1", "atom#2")
	a.looks([]int{x, sk}, "seal#0(atom#1,atom#2)", "atom#3")
	a.looks([]int{sk, plain, x}, "atom#0", "atom#1", "seal#2(atom#3,atom#1)")
	a.looks([]int{x, sk, draw}, "seal(pub(atom#0),atom#1,atom#2,atom#3)", "atom#0", "atom#3")
	a.looks([]int{x, pk, aad, plain, draw}, "seal(pub#0,atom#1,atom#2,atom#3)", "pub#0", "atom#1", "atom#2", "atom#3")
	for _, no := range []int{sk, a.of(api.Hash, sk), a.of(api.List, pk), a.of(api.List, sk)} {
		y := a.of(api.Seal, no, aad, plain, draw)
		a.looks([]int{y, sk}, "seal#0", "atom#1")
		a.looks([]int{y}, "seal#0")
	}
	y := a.of(api.Seal, sk, aad, plain, draw)
	a.looks([]int{y, sk, aad, plain, draw}, "seal(atom#0,atom#1,atom#2,atom#3)", "atom#0", "atom#1", "atom#2", "atom#3")
}

// Of a Sig the message shows; of one of a blinded message, with what was drawn, the Sig of the message is none that shows its key.
func TestPatternsOfSigs(t *testing.T) {
	a := begin(t)
	sk, m, draw := a.atom(1), a.atom(2), a.atom(3)
	blind := a.of(api.Blind, m, draw)
	x, y := a.of(api.Sig, sk, blind), a.of(api.Sig, sk, m)
	a.looks([]int{x}, "sig#0(blind#1)")
	a.looks([]int{x, draw}, "sig#0(blind(atom#1,atom#2))", "atom#2")
	a.looks([]int{y, x}, "sig#0(atom#1)", "sig#2(blind#3)")
	a.looks([]int{x, y, x, draw}, "sig#0(blind(atom#1,atom#2))", "sig#3(atom#1)", "sig#0(blind(atom#1,atom#2))", "atom#2")
	a.looks([]int{a.of(api.Hash, y), x, draw}, "hash(sig#0(atom#1))", "sig#2(blind(atom#1,atom#3))", "atom#3") // it was unblinded
	a.looks([]int{a.of(api.Hash, y), x}, "hash#0", "sig#1(blind#2)")
	a.looks([]int{a.of(api.Sig, a.word("k"), m)}, `sig("k",atom#0)`)
}

// Each term is met ahead of its parts, these from the left; one that does not show has no number.
func TestNumbersInOrder(t *testing.T) {
	a := begin(t)
	b, c, d, k := a.atom(9), a.atom(8), a.atom(7), a.atom(6)
	closed := a.of(api.Enc, k, b, c, d)
	sig := a.of(api.Sig, k, a.of(api.List, d, closed))
	l := []int{a.of(api.List, c, a.of(api.List, closed, b), c), sig, b, closed, a.of(api.Hash, b)}
	a.looks(l, "list(atom#0,list(enc#1,atom#2),atom#0)", "sig#3(list(atom#4,enc#1))", "atom#2", "enc#1", "hash(atom#2)")
	slices.Reverse(l)
	a.looks(l, "hash(atom#0)", "enc#1", "atom#0", "sig#2(list(atom#3,enc#1))", "list(atom#4,list(enc#1,atom#0),atom#4)")
	a.looks([]int{sig, k}, "sig(atom#0,list(atom#1,enc(atom#0,atom#2,atom#3,atom#1)))", "atom#0")
}

// A term that is met again has its number, at whatever depth it was met first, and however many stand between.
func TestMetAgain(t *testing.T) {
	a := begin(t)
	x, y := a.atom(1), a.atom(2)
	h, f := a.of(api.Hash, a.atom(3)), a.of(api.Hash, a.atom(4))
	a.looks([]int{x, x, y, x, y}, "atom#0", "atom#0", "atom#1", "atom#0", "atom#1")
	a.looks([]int{a.of(api.List, h, h, f), f, h}, "list(hash#0,hash#0,hash#1)", "hash#1", "hash#0")
	a.looks([]int{f, a.of(api.Mix, h, f), h}, "hash#0", "mix(hash#1,hash#0)", "hash#1")
	var l []int
	var want []string
	for i := range 300 {
		l = append(l, a.atom(1000-i%150))
		want = append(want, "atom#"+strconv.Itoa(i%150))
	}
	a.looks(l, want...)
}

// Of a Text stand its bytes as they are.
func TestPatternsOfTexts(t *testing.T) {
	a := begin(t)
	for _, s := range []string{"", "a b", `"`, `\`, `\"`, "\n\x00\xff", "é", "),(", "list(", "atom#0", strings.Repeat(`"`, api.MaxText)} {
		x := a.word(s)
		a.looks([]int{x}, `"`+s+`"`)
		a.looks([]int{a.of(api.List, x, x)}, `list("`+s+`","`+s+`")`)
	}
}

func TestNoPatterns(t *testing.T) {
	a := begin(t)
	a.atom(1)
	a.looks(nil)
	a.looks([]int{})
	a.alike(true, nil, []int{})
	a.alike(false, nil, []int{0})
}

func TestAlike(t *testing.T) {
	a := begin(t)
	x, y, k, f := a.atom(1), a.atom(2), a.atom(3), a.atom(4)
	none := a.word("")
	kx, ky, fx := a.of(api.Enc, k, none, none, x), a.of(api.Enc, k, none, none, y), a.of(api.Enc, f, none, none, x)
	for _, c := range []struct {
		is   bool
		l, m []int
	}{
		{true, []int{x}, []int{x}},
		{true, []int{x, y}, []int{y, x}},
		{true, []int{x, y, x}, []int{y, k, y}},
		{false, []int{x, y, x}, []int{y, k, k}},
		{false, []int{x, x}, []int{x}},
		{false, []int{x, y}, []int{x}},
		{true, []int{kx}, []int{fx}},
		{true, []int{kx, fx}, []int{ky, kx}},
		{false, []int{kx, kx}, []int{kx, ky}},
		{true, []int{kx, k}, []int{ky, k}},
		{true, []int{kx, k}, []int{fx, f}},
		{false, []int{kx, k}, []int{fx, k}}, // with what can be derived of itself alone
		{false, []int{kx, k}, []int{kx, f}},
		{false, []int{kx, k}, []int{kx, x}},
		{true, []int{kx, k, x}, []int{ky, k, y}},
		{false, []int{kx, k, x}, []int{ky, k, x}},
		{false, []int{x}, []int{none}},
		{false, []int{x}, []int{kx}},
		{false, []int{a.of(api.Hash, x)}, []int{a.of(api.Pub, x)}},
		{false, []int{a.of(api.Hash, x), x}, []int{a.of(api.Hash, x), y}},
		{true, []int{a.of(api.Hash, x), y}, []int{a.of(api.Hash, y), x}},
		{false, []int{a.of(api.List, x, y)}, []int{x, y}},
		{false, []int{a.of(api.List, x, y)}, []int{a.of(api.List, x, x)}},
		{false, []int{a.of(api.List, x, y)}, []int{a.of(api.List, x, y, k)}},
		{true, []int{a.of(api.List, x, y)}, []int{a.of(api.List, k, f)}},
		{false, []int{a.word("x")}, []int{a.word("y")}},
		{false, []int{a.word("x")}, []int{a.word("xx")}},
		{true, []int{a.of(api.Sig, x, kx)}, []int{a.of(api.Sig, y, fx)}},
		{false, []int{a.of(api.Sig, x, kx)}, []int{a.of(api.Sig, y, x)}},
	} {
		a.alike(c.is, c.l, c.m)
	}
}

// The bytes of a Text may be those that stand around one: the patterns are the same, where their texts are.
func TestAlikeOfTexts(t *testing.T) {
	a := begin(t)
	list := func(l ...string) int {
		var parts []int
		for _, s := range l {
			parts = append(parts, a.word(s))
		}
		return a.of(api.List, parts...)
	}
	nest := func(l ...int) []int { return []int{a.of(api.List, l...)} }
	for _, c := range []struct {
		is   bool
		l, m []int
	}{
		{true, []int{list(`x","y`)}, []int{list("x", "y")}},
		{true, []int{list("x", `y","z`)}, []int{list(`x","y`, "z")}},
		{true, []int{list("x", `y","z`, "")}, []int{list("x", "y", `z","`)}},
		{false, []int{list("x", `y","z`)}, []int{list(`x","y`, "y")}},
		{false, []int{list("x", `y","z`)}, []int{list(`x","y`)}},
		{false, []int{list(`x","y`)}, []int{list("x", "y", "z")}},
		{false, []int{list(`x","yz`)}, []int{list("x", "y")}},
		{true, nest(list("a"), list("b")), nest(list(`a"),list("b`))},
		{false, nest(list("a"), list("b")), nest(list(`a")list("b`))},
		{true, []int{list(`a",list("b"),"c`)}, []int{a.of(api.List, a.word("a"), list("b"), a.word("c"))}},
		{true, []int{list(`a",atom#0,"c`), a.atom(1)}, []int{a.of(api.List, a.word("a"), a.atom(1), a.word("c")), a.atom(1)}},
		{false, []int{list(`a",atom#0,"c`), a.atom(1)}, []int{a.of(api.List, a.word("a"), a.atom(1), a.word("c")), a.atom(2)}},
		{false, []int{a.word("a"), a.word("b")}, []int{a.word(`a","b`)}},
		{false, []int{a.word("list()")}, []int{a.of(api.List)}},
	} {
		a.alike(c.is, c.l, c.m)
		x, _ := deduce.Pattern(a.Arena, c.l)
		y, _ := deduce.Pattern(a.Arena, c.m)
		if slices.Equal(x, y) != c.is {
			t.Errorf("got %q, %q", x, y)
		}
	}
}

// doubled is a List of twice a List of twice .. t.
func (a arena) doubled(t, times int) int {
	for range times {
		t = a.of(api.List, t, t)
	}
	return t
}

// Patterns that no memory holds are held against each other all the same; they are too long to be told.
func TestDoubled(t *testing.T) {
	a := begin(t)
	const times = 200
	x, y := a.atom(1), a.atom(2)
	pair, quoted := a.of(api.List, a.word("x"), a.word("y")), a.word(`x","y`)
	a.alike(true, []int{a.doubled(x, times)}, []int{a.doubled(y, times)})
	a.alike(false, []int{a.doubled(x, times), x}, []int{a.doubled(y, times), x})
	a.alike(false, []int{a.doubled(x, times)}, []int{a.doubled(y, times+1)})
	a.alike(false, []int{a.doubled(pair, times)}, []int{a.doubled(a.of(api.List, a.word("x"), a.word("z")), times)})
	a.alike(false, []int{a.of(api.List, quoted, a.doubled(pair, times))}, []int{a.of(api.List, a.word("x"), a.word("y"), a.doubled(x, times))})
	a.alike(true, []int{a.of(api.List, quoted, a.doubled(x, times))}, []int{a.of(api.List, a.word("x"), a.word("y"), a.doubled(y, times))})
	for _, l := range [][]int{{a.doubled(x, times)}, {x, a.doubled(x, 40)}} {
		if got, e := deduce.Pattern(a.Arena, l); len(got) != 0 || e != api.ErrLong {
			t.Errorf("got %d, %d", len(got), e)
		}
	}
	want := "atom#0"
	for range 16 {
		want = "list(" + want + "," + want + ")"
	}
	a.looks([]int{a.doubled(y, 16)}, want)
}

// As many terms as there may be, each one upon the one ahead, show all of it.
func TestDeepPatterns(t *testing.T) {
	a := begin(t)
	x := a.atom(0)
	for a.Len() < api.MaxTerms-1 {
		x = a.of(api.Hash, x)
	}
	y := a.atom(1)
	depth := x
	a.looks([]int{x, y}, "hash#0", "atom#1")
	l, e := deduce.Pattern(a.Arena, []int{x, 0})
	if want := strings.Repeat("hash(", depth) + "atom#0" + strings.Repeat(")", depth); len(l) != 2 || l[0] != want || l[1] != "atom#0" || e != api.OK {
		t.Errorf("got %d, %d", len(l), e)
	}
	a.alike(true, []int{x, 0}, []int{x, 0})
	a.alike(false, []int{x, 0}, []int{x - 1, 0})
	a.alike(true, []int{x, y}, []int{x - 1, y})
}
