package path_test

import (
	"slices"
	"strconv"
	"testing"

	"cassock/api"
	"cassock/path"
	"cassock/ratchet"
	"cassock/term"
)

// The model finds all nodes by halving the tree from the root down, and makes its terms by the chapter's words, one by one; it stands on term alone.

// The ends of what an int can be.
const (
	greatest = 1<<63 - 1
	least    = -1 << 63
)

// place is a node of a tree, and the leaves under it: from on, ahead of to.
type place struct{ x, from, to int }

func (p place) leaf() bool { return p.to-p.from == 1 }

func (p place) over(i int) bool { return p.from <= i && i < p.to }

func (p place) halves() (place, place) {
	half := (p.from + p.to) / 2
	return spot(p.from, half), spot(half, p.to)
}

func spot(from, to int) place { return place{from + to - 1, from, to} }

func root(t []api.TNode) place { return spot(0, (len(t)+1)/2) }

// fork is a node above a leaf: its child on the way there, and the other one.
type fork struct{ at, way, beside place }

// forks are all nodes above the leaf i, the highest first.
func forks(t []api.TNode, i int) []fork {
	var l []fork
	for p := root(t); !p.leaf(); {
		way, beside := p.halves()
		if beside.over(i) {
			way, beside = beside, way
		}
		l = append(l, fork{p, way, beside})
		p = way
	}
	return l
}

// ways are those of a path, the lowest first.
func ways(t []api.TNode, i int) []fork {
	l := forks(t, i)
	slices.Reverse(l)
	return slices.DeleteFunc(l, func(f fork) bool { return len(resolution(t, f.beside)) == 0 })
}

func resolution(t []api.TNode, p place) []int {
	if t[p.x].Kind != api.Blank {
		l := []int{p.x}
		for _, i := range t[p.x].Unmerged {
			l = append(l, i+i)
		}
		return l
	}
	if p.leaf() {
		return nil
	}
	left, right := p.halves()
	return slices.Concat(resolution(t, left), resolution(t, right))
}

// sealedTo are those of p's resolution that no fresh leaf is.
func sealedTo(t []api.TNode, p place, fresh []int) []int {
	var l []int
	for _, y := range resolution(t, p) {
		if y%2 == 1 || !slices.Contains(fresh, y/2) {
			l = append(l, y)
		}
	}
	return l
}

// model makes terms in an arena, and ends the test where one can't be made.
type model struct {
	testing.TB
	a *term.Arena
}

func (m model) make(n api.Node) int {
	m.Helper()
	x, e := m.a.Make(n)
	if e != api.OK {
		m.Fatalf("the model makes no %v: got %d", n, e)
	}
	return x
}

func (m model) of(op int, l ...int) int { return m.make(api.Node{Op: op, L: l}) }

func (m model) text(s string) int { return m.make(api.Node{Op: api.Text, S: s}) }

func (m model) list(l ...int) int { return m.of(api.List, l...) }

func (m model) hashed(l ...int) int { return m.of(api.Hash, m.list(l...)) }

func (m model) pub(sk int) int { return m.of(api.Pub, sk) }

func (m model) atom(n int) int { return m.make(api.Node{Op: api.Atom, N: n}) }

func (m model) derived(secret int, label string) int {
	return m.of(api.Key, secret, m.text(label), m.list())
}

func (m model) hash(t []api.TNode, p place) int {
	l, what := t[p.x], m.text("")
	if p.leaf() {
		if l.Kind == api.Leaf {
			what = m.list(l.Id, l.Enc, l.Sig, l.Hash)
		}
		return m.hashed(m.text("leaf"), m.text(strconv.Itoa(p.from)), what)
	}
	if l.Kind == api.Parent {
		var unmerged []int
		for _, i := range l.Unmerged {
			unmerged = append(unmerged, m.text(strconv.Itoa(i)))
		}
		what = m.list(l.Enc, l.Hash, m.list(unmerged...))
	}
	left, right := p.halves()
	return m.hashed(m.text("node"), what, m.hash(t, left), m.hash(t, right))
}

// grown is the new tree of a path: the leaf l, and the nodes that have these keys.
func (m model) grown(t []api.TNode, i int, l api.TNode, enc []int) []api.TNode {
	u, said := copied(t), m.text("")
	for _, f := range forks(t, i) {
		u[f.at.x] = api.TNode{}
	}
	way := ways(t, i)
	for k := len(way) - 1; k >= 0; k-- {
		u[way[k].at.x] = api.TNode{Kind: api.Parent, Enc: enc[k], Hash: said}
		said = m.hashed(m.text("vouch"), enc[k], said, m.hash(t, way[k].beside))
	}
	u[2*i] = api.TNode{Kind: api.Leaf, Id: l.Id, Enc: l.Enc, Sig: l.Sig, Hash: said}
	return u
}

// made is the path that the member i makes.
func (m model) made(t []api.TNode, i int, l api.TNode, secret, draw, aad int, fresh ...int) path.Made {
	sk := m.derived(secret, "leaf")
	l.Enc = m.pub(sk)
	made := path.Made{Keys: []api.Secret{{Node: 2 * i, Sk: sk}}}
	var enc []int
	for _, f := range ways(t, i) {
		secret = m.derived(secret, "path")
		sk := m.derived(secret, "node")
		enc = append(enc, m.pub(sk))
		made.Keys = append(made.Keys, api.Secret{Node: f.at.x, Sk: sk})
		n := api.PNode{Enc: m.pub(sk)}
		for _, y := range sealedTo(t, f.beside, fresh) {
			n.Seals = append(n.Seals, m.of(api.Seal, t[y].Enc, aad, secret, m.atom(draw+made.Draws)))
			made.Draws++
		}
		made.Path.Nodes = append(made.Path.Nodes, n)
	}
	made.Secret = m.derived(secret, "path")
	made.Tree = m.grown(t, i, l, enc)
	made.Path.Leaf = made.Tree[2*i]
	return made
}

// taken is what the member me has of a path that i made: its own keys that still go, and the maker's of what is above both.
func (m model) taken(made path.Made, i, me int, keys []api.Secret) path.Made {
	var l []api.Secret
	for _, s := range keys {
		_, e := m.a.Node(s.Sk)
		if n := made.Tree[s.Node]; e == api.OK && n.Kind != api.Blank && n.Enc == m.pub(s.Sk) {
			l = append(l, s)
		}
	}
	for _, f := range ways(made.Tree, i) {
		for _, s := range made.Keys {
			if s.Node == f.at.x && f.at.over(me) {
				l = append(l, s)
			}
		}
	}
	made.Keys, made.Draws = l, 0
	return made
}

// holds tells whether the member me has x's key.
func holds(t []api.TNode, me, x int) bool {
	above := slices.ContainsFunc(forks(t, me), func(f fork) bool { return f.at.x == x })
	return x == 2*me || above && t[x].Kind == api.Parent && !slices.Contains(t[x].Unmerged, me)
}

// held are the keys that me has, in a tree in which the node x's is the Atom x.
func (m model) held(t []api.TNode, me int) []api.Secret {
	var l []api.Secret
	for x := range t {
		if holds(t, me, x) {
			l = append(l, api.Secret{Node: x, Sk: m.atom(x)})
		}
	}
	return l
}

// The trees of these tests have the Atom x for the secret key of the node x; all else are Atoms from 1000 on.

func (m model) leaf(i int) api.TNode {
	return api.TNode{Kind: api.Leaf, Id: m.atom(1000 + i), Enc: m.pub(m.atom(2 * i)), Sig: m.atom(2000 + i), Hash: m.atom(3000 + i)}
}

func (m model) parent(x int, unmerged ...int) api.TNode {
	return api.TNode{Kind: api.Parent, Enc: m.pub(m.atom(x)), Hash: m.atom(4000 + x), Unmerged: unmerged}
}

// among is a tree of n leaves without Parents, that has these members.
func (m model) among(n int, members ...int) []api.TNode {
	u := make([]api.TNode, 2*n-1)
	for _, i := range members {
		u[2*i] = m.leaf(i)
	}
	return u
}

// full is a tree of n leaves, all of them members.
func (m model) full(n int) []api.TNode {
	u := m.among(n)
	for i := range n {
		u[2*i] = m.leaf(i)
	}
	return u
}

// rich is a tree of 8 leaves: member 2 is gone, 3 is Unmerged at two levels, and so is 6; nodes 5 and 11 are Blank.
func (m model) rich() []api.TNode {
	u := m.among(8, 0, 1, 3, 4, 5, 6, 7)
	u[1], u[3], u[7] = m.parent(1), m.parent(3, 3), m.parent(7, 3, 6)
	u[9], u[13] = m.parent(9), m.parent(13, 6)
	return u
}

// start is a model of an arena that has nothing.
func start(t testing.TB) model { return model{t, term.New()} }

// fill makes Atoms, till there is room for no more than these terms.
func (m model) fill(room int) {
	for n := 1 << 40; m.a.Len() < api.MaxTerms-room; n++ {
		m.atom(n)
	}
}

// copied shares nothing with t.
func copied(t []api.TNode) []api.TNode {
	u := slices.Clone(t)
	for x := range u {
		u[x].Unmerged = slices.Clone(u[x].Unmerged)
	}
	return u
}

// copiedPath shares nothing with p.
func copiedPath(p api.Path) api.Path {
	p.Nodes = slices.Clone(p.Nodes)
	for k := range p.Nodes {
		p.Nodes[k].Seals = slices.Clone(p.Nodes[k].Seals)
	}
	return p
}

// numbers are these, each with a comma behind it.
func numbers(l ...int) string {
	var b []byte
	for _, v := range l {
		b = append(strconv.AppendInt(b, int64(v), 10), ',')
	}
	return string(b)
}

// text tells all of a tree, pathText and keysText of a path and of keys, and madeText of all that is made of a path.
func text(t []api.TNode) string {
	s := ""
	for _, l := range t {
		s += numbers(l.Kind, l.Id, l.Enc, l.Sig, l.Hash) + "+" + numbers(l.Unmerged...) + ";"
	}
	return s
}

func pathText(p api.Path) string {
	s := text([]api.TNode{p.Leaf})
	for _, n := range p.Nodes {
		s += numbers(n.Enc) + ":" + numbers(n.Seals...) + ";"
	}
	return s
}

func keysText(l []api.Secret) string {
	s := ""
	for _, k := range l {
		s += numbers(k.Node, k.Sk) + ";"
	}
	return s
}

func madeText(m path.Made) string {
	return "path " + pathText(m.Path) + " tree " + text(m.Tree) + " keys " + keysText(m.Keys) + " secret, draws " + numbers(m.Secret, m.Draws)
}

// nothing tells whether all of m is zero.
func nothing(m path.Made) bool {
	l := m.Path.Leaf
	return m.Secret == 0 && m.Draws == 0 && len(m.Tree)+len(m.Keys)+len(m.Path.Nodes) == 0 && l.Kind+l.Id+l.Enc+l.Sig+l.Hash+len(l.Unmerged) == 0
}

// mustBe fails the test, if a tree that it stands on may not be.
func mustBe(t testing.TB, u []api.TNode) {
	t.Helper()
	if e := ratchet.Check(u); e != api.OK {
		t.Fatalf("%s: got %d", text(u), e)
	}
}

// draws are numbers that look drawn, the same ones each time.
type draws uint64

// below is a number from 0 on, below n.
func (d *draws) below(n int) int {
	*d = *d*6364136223846793005 + 1442695040888963407
	return int(uint64(*d)>>33) % n
}
