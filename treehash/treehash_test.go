package treehash_test

import (
	"strconv"
	"testing"

	"cassock/api"
	"cassock/term"
	"cassock/treehash"
)

// shown holds what a call made against its text.
func shown(t *testing.T, a *term.Arena, why, want string, x int, e api.Errno) {
	t.Helper()
	if e != api.OK {
		t.Errorf("%s: got %d", why, e)
		return
	}
	if s, e := a.Show(x); s != want || e != api.OK {
		t.Errorf("%s: got %s, %d", why, s, e)
	}
}

func hash(t *testing.T, a *term.Arena, u []api.TNode, x int, want string, without ...int) {
	t.Helper()
	mustBe(t, u)
	got, e := treehash.Hash(a, u, x, without...)
	shown(t, a, "Hash of "+strconv.Itoa(x), want, got, e)
}

func vouch(t *testing.T, a *term.Arena, u []api.TNode, x, child int, want string) {
	t.Helper()
	mustBe(t, u)
	got, e := treehash.Vouch(a, u, x, child)
	shown(t, a, "Vouch of "+strconv.Itoa(x)+", "+strconv.Itoa(child), want, got, e)
}

func valid(t *testing.T, a *term.Arena, u []api.TNode, want bool) {
	t.Helper()
	mustBe(t, u)
	if is, e := treehash.Valid(a, u); is != want || e != api.OK {
		t.Errorf("%s: Valid: got %v, %d", text(u), is, e)
	}
}

// What the leaves of grown are hashed to, and those where nobody is.
func full(i int) string {
	l := leaf(i)
	return "hash(list(\"leaf\",\"" + strconv.Itoa(i) + "\",list(#" + strconv.Itoa(l.Id) + ",#" + strconv.Itoa(l.Enc) + ",#" + strconv.Itoa(l.Sig) + ",#" + strconv.Itoa(l.Hash) + ")))"
}

func bare(i int) string { return "hash(list(\"leaf\",\"" + strconv.Itoa(i) + "\",\"\"))" }

func node(what, left, right string) string {
	return "hash(list(\"node\"," + what + "," + left + "," + right + "))"
}

func TestNone(t *testing.T) {
	for _, a := range []*term.Arena{term.New(), arena(3)} {
		n := a.Len()
		x, e := treehash.None(a)
		shown(t, a, "None", `""`, x, e)
		if y, f := treehash.None(a); x != n || y != x || f != api.OK || a.Len() != n+1 {
			t.Errorf("got %d, then %d, %d; %d terms", x, y, f, a.Len())
		}
	}
}

// The chapter's example; term 0 is one, too.
func TestOneLeaf(t *testing.T) {
	a := arena(room)
	hash(t, a, grown(1), 0, `hash(list("leaf","0",list(#1,#2,#3,#4)))`)
	hash(t, a, grown(1), 0, `hash(list("leaf","0",""))`, 0)
	hash(t, a, []api.TNode{{Kind: api.Leaf}}, 0, `hash(list("leaf","0",list(#0,#0,#0,#0)))`)
	hash(t, a, []api.TNode{{Kind: api.Leaf, Id: 7, Enc: 7, Sig: 3, Hash: 199}}, 0, `hash(list("leaf","0",list(#7,#7,#3,#199)))`)
	valid(t, a, grown(1), true)

	// A tree's terms may be of any kind.
	x, _ := treehash.None(a)
	y, _ := a.List(x, 5)
	hash(t, a, []api.TNode{{Kind: api.Leaf, Id: x, Enc: y, Sig: y, Hash: x}}, 0, `hash(list("leaf","0",list("",list("",#5),list("",#5),"")))`)
}

func TestTwoLeaves(t *testing.T) {
	a, u := arena(room), grown(2)
	hash(t, a, u, 0, full(0))
	hash(t, a, u, 1, node(`""`, full(0), full(1)))
	hash(t, a, u, 2, `hash(list("leaf","1",list(#5,#6,#7,#8)))`)
	hash(t, a, u, 1, node(`""`, bare(0), full(1)), 0)
	hash(t, a, u, 1, node(`""`, bare(0), bare(1)), 1, 0)
	valid(t, a, u, true)

	u[1] = parent(1)
	hash(t, a, u, 1, node("list(#102,#103,list())", full(0), full(1)))
	vouch(t, a, u, 1, 0, `hash(list("vouch",#102,#103,`+full(1)+`))`)
	vouch(t, a, u, 1, 2, `hash(list("vouch",#102,#103,`+full(0)+`))`)

	u[1] = parent(1, 0)
	hash(t, a, u, 1, node(`list(#102,#103,list("0"))`, full(0), full(1)))
	hash(t, a, u, 1, node(`list(#102,#103,list("0"))`, full(0), bare(1)), 1)
	hash(t, a, u, 1, node(`list(#102,#103,list())`, bare(0), full(1)), 0)
	vouch(t, a, u, 1, 0, `hash(list("vouch",#102,#103,`+full(1)+`))`)
	vouch(t, a, u, 1, 2, `hash(list("vouch",#102,#103,`+bare(0)+`))`)

	u[1] = api.TNode{Kind: api.Parent, Unmerged: []int{0, 1}}
	hash(t, a, u, 1, node(`list(#0,#0,list("0","1"))`, full(0), full(1)))
	hash(t, a, u, 1, node(`list(#0,#0,list("0"))`, full(0), bare(1)), 1)
	vouch(t, a, u, 1, 0, `hash(list("vouch",#0,#0,`+bare(1)+`))`)

	// A Blank leaf is as one that is left off.
	u = among(2, 1)
	hash(t, a, u, 0, bare(0))
	hash(t, a, u, 0, bare(0), 0)
	hash(t, a, u, 1, node(`""`, bare(0), full(1)))
	hash(t, a, u, 1, node(`""`, bare(0), full(1)), 0)
	hash(t, a, u, 1, node(`""`, bare(0), bare(1)), 1)
}

func TestEightLeaves(t *testing.T) {
	a, u := arena(room), rich()
	one := node("list(#102,#103,list())", full(0), full(1))
	five, fiveOff := node(`""`, bare(2), full(3)), node(`""`, bare(2), bare(3))
	hash(t, a, u, 1, one)
	hash(t, a, u, 3, node(`list(#106,#107,list("3"))`, one, five))
	hash(t, a, u, 4, bare(2))
	hash(t, a, u, 5, five)
	nine := node("list(#118,#119,list())", full(4), full(5))
	thirteen := node(`list(#126,#127,list("6"))`, full(6), full(7))
	thirteenOff := node(`list(#126,#127,list())`, bare(6), full(7))
	hash(t, a, u, 11, node(`""`, nine, thirteen))
	hash(t, a, u, 13, thirteen)
	left := node(`list(#106,#107,list("3"))`, one, five)
	hash(t, a, u, 7, node(`list(#114,#115,list("3","6"))`, left, node(`""`, nine, thirteen)))

	// Who is left off is so at all levels, whether anyone has it in its Unmerged or not.
	leftOff := node(`list(#106,#107,list())`, one, fiveOff)
	hash(t, a, u, 3, leftOff, 3)
	hash(t, a, u, 7, node(`list(#114,#115,list())`, leftOff, node(`""`, nine, thirteenOff)), 6, 3)
	hash(t, a, u, 7, node(`list(#114,#115,list("6"))`, leftOff, node(`""`, nine, thirteen)), 3)
	hash(t, a, u, 11, node(`""`, node("list(#118,#119,list())", bare(4), full(5)), thirteen), 4)

	// More than once, and such as are no leaves' numbers here, or anywhere.
	hash(t, a, u, 7, node(`list(#114,#115,list("3"))`, left, node(`""`, nine, thirteenOff)), 6, 6, 2, 6)
	hash(t, a, u, 7, node(`list(#114,#115,list("3"))`, left, node(`""`, nine, thirteenOff)), 8, 14, 255, 256, 257, 12, greatest, 6, -6, -1, least, least+6, 1<<32+3, 1<<62+3)
	hash(t, a, u, 11, node(`""`, nine, thirteen), 0, 1, 2, 3, 8, -7)

	// The other child is hashed without what is Unmerged at x, and at x alone.
	vouch(t, a, u, 1, 0, `hash(list("vouch",#102,#103,`+full(1)+`))`)
	vouch(t, a, u, 3, 1, `hash(list("vouch",#106,#107,`+fiveOff+`))`)
	vouch(t, a, u, 3, 5, `hash(list("vouch",#106,#107,`+one+`))`)
	vouch(t, a, u, 7, 3, `hash(list("vouch",#114,#115,`+node(`""`, nine, thirteenOff)+`))`)
	vouch(t, a, u, 7, 11, `hash(list("vouch",#114,#115,`+leftOff+`))`)
	vouch(t, a, u, 13, 14, `hash(list("vouch",#126,#127,`+bare(6)+`))`)
	vouch(t, a, u, 13, 12, `hash(list("vouch",#126,#127,`+full(7)+`))`)
	u[7] = parent(7)
	vouch(t, a, u, 7, 3, `hash(list("vouch",#114,#115,`+node(`""`, nine, thirteen)+`))`)
	vouch(t, a, u, 7, 11, `hash(list("vouch",#114,#115,`+left+`))`)
	u[7] = parent(7, 6)
	vouch(t, a, u, 7, 3, `hash(list("vouch",#114,#115,`+node(`""`, nine, thirteenOff)+`))`)
	vouch(t, a, u, 7, 11, `hash(list("vouch",#114,#115,`+left+`))`)
}

// A leaf's number has one digit, two or three.
func TestGreatest(t *testing.T) {
	a, u := arena(1100), grown(256)
	for _, i := range []int{0, 1, 7, 9, 10, 11, 42, 99, 100, 101, 254, 255} {
		hash(t, a, u, 2*i, full(i))
		hash(t, a, u, 2*i, bare(i), i)
	}
	u[509], u[507] = parent(10, 255), parent(11, 253, 254, 255)
	u[509].Unmerged = []int{254, 255}
	u[505] = parent(12, 253)
	right := node(`list(#120,#121,list("254","255"))`, full(254), full(255))
	hash(t, a, u, 509, right)
	hash(t, a, u, 507, node(`list(#122,#123,list("253","254","255"))`, node(`list(#124,#125,list("253"))`, full(252), full(253)), right))
	hash(t, a, u, 507, node(`list(#122,#123,list("253","255"))`, node(`list(#124,#125,list("253"))`, full(252), full(253)), node(`list(#120,#121,list("255"))`, bare(254), full(255))), 254)
	vouch(t, a, u, 507, 509, `hash(list("vouch",#122,#123,`+node(`list(#124,#125,list())`, full(252), bare(253))+`))`)

}

// As many Unmerged as a List may have parts; those beyond are left off.
func TestMostUnmerged(t *testing.T) {
	a, u := arena(1100), grown(256)
	m := model{t, a}
	u[255] = parent(1)
	for i := range 64 {
		u[255].Unmerged = append(u[255].Unmerged, 4*i)
	}
	mustBe(t, u)
	if x, e := treehash.Hash(a, u, 255); x != m.hash(u, 255) || e != api.OK {
		t.Errorf("got %d, %d", x, e)
	}
	u[255].Unmerged = append(u[255].Unmerged, 254, 255)
	mustBe(t, u)
	if x, e := treehash.Hash(a, u, 255); x != 0 || e != api.ErrArg {
		t.Errorf("66 of them: got %d, %d", x, e)
	}
	if x, e := treehash.Hash(a, u, 255, 255, 9); x != 0 || e != api.ErrArg {
		t.Errorf("65 of them: got %d, %d", x, e)
	}
	if x, e := treehash.Hash(a, u, 255, 255, 8); x != m.hash(u, 255, 255, 8) || e != api.OK {
		t.Errorf("but two: got %d, %d", x, e)
	}
	// Of what is beside there is no List but of those that x has not, too.
	byLeft, byRight := m.vouches(u, 255)
	if x, e := treehash.Vouch(a, u, 255, 127); x != byLeft || e != api.OK {
		t.Errorf("got %d, %d", x, e)
	}
	if x, e := treehash.Vouch(a, u, 255, 383); x != byRight || e != api.OK {
		t.Errorf("got %d, %d", x, e)
	}
}
