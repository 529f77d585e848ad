package treehash_test

import (
	"slices"
	"strconv"
	"testing"

	"cassock/api"
	"cassock/ratchet"
	"cassock/term"
)

// The model finds all nodes by halving the tree from the root down, and makes its terms by the chapter's words, one by one; it stands on term alone.

// The ends of what an int can be.
const (
	greatest = 1<<63 - 1
	least    = -1 << 63
)

// counts are the numbers of leaves that a tree may have.
func counts() []int { return []int{1, 2, 4, 8, 16, 32, 64, 128, 256} }

// place is a node of a tree, and the leaves under it: from on, ahead of to.
type place struct{ x, from, to int }

func (p place) leaf() bool { return p.to-p.from == 1 }

func (p place) halves() (place, place) {
	half := (p.from + p.to) / 2
	return spot(p.from, half), spot(half, p.to)
}

func spot(from, to int) place { return place{from + to - 1, from, to} }

func root(t []api.TNode) place { return spot(0, (len(t)+1)/2) }

// at is the place of a node that is there.
func at(t []api.TNode, x int) place {
	p := root(t)
	for p.x != x {
		left, right := p.halves()
		if p = right; x < left.x+(right.x-left.x)/2 {
			p = left
		}
	}
	return p
}

// model makes terms in an arena, and ends the test where one can't be made.
type model struct {
	*testing.T
	a *term.Arena
}

func (m model) make(n api.Node) int {
	m.Helper()
	x, e := m.a.Make(n)
	if e != api.OK {
		m.Fatalf("the model makes no %v: got %d", n, e)
	}
	return x
}

func (m model) text(s string) int { return m.make(api.Node{Op: api.Text, S: s}) }

func (m model) list(l ...int) int { return m.make(api.Node{Op: api.List, L: l}) }

func (m model) hashed(l ...int) int { return m.make(api.Node{Op: api.Hash, L: []int{m.list(l...)}}) }

func (m model) hash(t []api.TNode, x int, without ...int) int {
	return m.hashAt(t, at(t, x), without)
}

func (m model) hashAt(t []api.TNode, p place, without []int) int {
	l, what := t[p.x], m.text("")
	if p.leaf() {
		if l.Kind == api.Leaf && !slices.Contains(without, p.from) {
			what = m.list(l.Id, l.Enc, l.Sig, l.Hash)
		}
		return m.hashed(m.text("leaf"), m.text(strconv.Itoa(p.from)), what)
	}
	if l.Kind == api.Parent {
		var unmerged []int
		for _, i := range l.Unmerged {
			if !slices.Contains(without, i) {
				unmerged = append(unmerged, m.text(strconv.Itoa(i)))
			}
		}
		what = m.list(l.Enc, l.Hash, m.list(unmerged...))
	}
	left, right := p.halves()
	return m.hashed(m.text("node"), what, m.hashAt(t, left, without), m.hashAt(t, right, without))
}

// vouches are what x's left child says of it, and what its right one.
func (m model) vouches(t []api.TNode, x int) (int, int) {
	left, right := at(t, x).halves()
	vouch := func(other place) int {
		return m.hashed(m.text("vouch"), t[x].Enc, t[x].Hash, m.hashAt(t, other, t[x].Unmerged))
	}
	return vouch(right), vouch(left)
}

func (m model) valid(t []api.TNode) bool {
	for x := range t {
		if t[x].Kind != api.Parent {
			continue
		}
		left, right := at(t, x).halves()
		byLeft, byRight := m.vouches(t, x)
		if !says(t, resolution(t, left), byLeft) && !says(t, resolution(t, right), byRight) {
			return false
		}
	}
	return true
}

func says(t []api.TNode, l []int, what int) bool {
	return slices.ContainsFunc(l, func(y int) bool { return t[y].Hash == what })
}

func resolution(t []api.TNode, p place) []int {
	if t[p.x].Kind != api.Blank {
		l := []int{p.x}
		for _, i := range t[p.x].Unmerged {
			l = append(l, i+i)
		}
		return l
	}
	if p.leaf() {
		return nil
	}
	left, right := p.halves()
	return slices.Concat(resolution(t, left), resolution(t, right))
}

// arena has n Atoms: what a tree is of has numbers below n.
func arena(n int) *term.Arena {
	a := term.New()
	for k := range n {
		a.Make(api.Node{Op: api.Atom, N: k})
	}
	return a
}

// room is how many terms the arenas have whose trees are made by leaf and parent: those of trees of 16 leaves.
const room = 200

// leaf is the leaf i's member, in which each part is another term.
func leaf(i int) api.TNode {
	return api.TNode{Kind: api.Leaf, Id: 4*i + 1, Enc: 4*i + 2, Sig: 4*i + 3, Hash: 4*i + 4}
}

// parent is the node x's.
func parent(x int, unmerged ...int) api.TNode {
	return api.TNode{Kind: api.Parent, Enc: 2*x + 100, Hash: 2*x + 101, Unmerged: unmerged}
}

// among is a tree of n leaves without Parents, that has these members.
func among(n int, members ...int) []api.TNode {
	u := make([]api.TNode, 2*n-1)
	for _, i := range members {
		u[2*i] = leaf(i)
	}
	return u
}

// grown is a tree of n leaves, all of them members.
func grown(n int) []api.TNode {
	u := among(n)
	for i := range n {
		u[2*i] = leaf(i)
	}
	return u
}

// rich is a tree of 8 leaves: member 2 is gone, 3 is Unmerged at two levels, and so is 6; nodes 5 and 11 are Blank.
func rich() []api.TNode {
	u := among(8, 0, 1, 3, 4, 5, 6, 7)
	u[1], u[3], u[7] = parent(1), parent(3, 3), parent(7, 3, 6)
	u[9], u[13] = parent(9), parent(13, 6)
	return u
}

// committed is u where the member i has made a new path, from a term enc on: all nodes above it are Blank, or, if someone is beside the way, Parents, and who is on the way says of the next Parent above what there is to say.
func (m model) committed(u []api.TNode, i, enc int) []api.TNode {
	v := copied(u)
	v[2*i].Enc = enc
	m.commitAt(v, root(v), i, enc+1, m.text(""))
	return v
}

// commitAt tells the first one of the path from p down what it says of what is above.
func (m model) commitAt(v []api.TNode, p place, i, enc, what int) {
	if p.leaf() {
		v[p.x].Hash = what
		return
	}
	way, beside := p.halves()
	if i >= way.to {
		way, beside = beside, way
	}
	v[p.x] = api.TNode{}
	if len(resolution(v, beside)) > 0 {
		v[p.x] = api.TNode{Kind: api.Parent, Enc: enc, Hash: what}
		what = m.hashed(m.text("vouch"), enc, what, m.hashAt(v, beside, nil))
	}
	m.commitAt(v, way, i, enc+1, what)
}

// copied shares nothing with t.
func copied(t []api.TNode) []api.TNode {
	u := slices.Clone(t)
	for x := range u {
		u[x].Unmerged = slices.Clone(u[x].Unmerged)
	}
	return u
}

// text tells all of a tree.
func text(t []api.TNode) string {
	var b []byte
	for _, l := range t {
		for _, v := range []int{l.Kind, l.Id, l.Enc, l.Sig, l.Hash} {
			b = append(strconv.AppendInt(b, int64(v), 10), ',')
		}
		for _, v := range l.Unmerged {
			b = append(strconv.AppendInt(append(b, '+'), int64(v), 10), ',')
		}
		b = append(b, ';')
	}
	return string(b)
}

// mustBe fails the test, if a tree that it stands on may not be.
func mustBe(t *testing.T, u []api.TNode) {
	t.Helper()
	if e := ratchet.Check(u); e != api.OK {
		t.Fatalf("%s: got %d", text(u), e)
	}
}

// draws are numbers that look drawn, the same ones each time.
type draws uint64

// below is a number from 0 on, below n.
func (d *draws) below(n int) int {
	*d = *d*6364136223846793005 + 1442695040888963407
	return int(uint64(*d)>>33) % n
}
