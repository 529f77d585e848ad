package path_test

import (
	"slices"
	"strconv"
	"testing"

	"cassock/api"
	"cassock/path"
	"cassock/ratchet"
	"cassock/treehash"
)

// shown holds a term against its text.
func (m model) shown(why, want string, x int) {
	m.Helper()
	if s, e := m.a.Show(x); s != want || e != api.OK {
		m.Errorf("%s: got %s, %d, not %s", why, s, e, want)
	}
}

// makes is the path that is made; it goes with the tree, and is the model's.
func (m model) makes(u []api.TNode, i int, l api.TNode, secret, draw, aad int, fresh ...int) path.Made {
	m.Helper()
	mustBe(m, u)
	made, e := path.Make(m.a, u, i, l, secret, draw, aad, fresh...)
	if e != api.OK {
		m.Fatalf("%s: Make of %d: got %d", text(u), i, e)
	}
	if want := m.made(u, i, l, secret, draw, aad, fresh...); madeText(made) != madeText(want) {
		m.Fatalf("%s: Make of %d, fresh %v: got %s, not %s", text(u), i, fresh, madeText(made), madeText(want))
	}
	if e := path.Shape(m.a, u, i, made.Path, fresh...); e != api.OK {
		m.Fatalf("%s: Shape of %d's: got %d", text(u), i, e)
	}
	return made
}

// takes is what a member comes to by a path; it is the model's.
func (m model) takes(u []api.TNode, i int, made path.Made, me int, keys []api.Secret, aad int, fresh ...int) path.Made {
	m.Helper()
	took, e := path.Take(m.a, u, i, made.Path, me, keys, aad, fresh...)
	if e != api.OK {
		m.Fatalf("%s: Take of %d's by %d: got %d", text(u), i, me, e)
	}
	if want := m.taken(made, i, me, keys); madeText(took) != madeText(want) {
		m.Fatalf("%s: Take of %d's by %d, fresh %v: got %s, not %s", text(u), i, me, fresh, madeText(took), madeText(want))
	}
	return took
}

// What is derived of a secret whose text is s.
func pathOf(s string) string { return "key(" + s + `,"path",list())` }

func nodeOf(s string) string { return "key(" + s + `,"node",list())` }

func leafOf(s string) string { return "key(" + s + `,"leaf",list())` }

func pubOf(s string) string { return "pub(" + s + ")" }

// What the leaf i of a full tree is hashed to.
func member(i int) string {
	n := strconv.Itoa(i)
	return `hash(list("leaf","` + n + `",list(#` + strconv.Itoa(1000+i) + ",pub(#" + strconv.Itoa(2*i) + "),#" + strconv.Itoa(2000+i) + ",#" + strconv.Itoa(3000+i) + ")))"
}

func vouch(enc, hash, other string) string {
	return `hash(list("vouch",` + enc + "," + hash + "," + other + "))"
}

func node(what, left, right string) string {
	return `hash(list("node",` + what + "," + left + "," + right + "))"
}

// keys holds secret keys against their nodes and texts.
func (m model) keys(why string, got []api.Secret, want ...string) {
	m.Helper()
	if 2*len(got) != len(want) {
		m.Errorf("%s: got %v", why, got)
		return
	}
	for k, s := range got {
		if strconv.Itoa(s.Node) != want[2*k] {
			m.Errorf("%s: got %v", why, got)
		}
		m.shown(why, want[2*k+1], s.Sk)
	}
}

// nodes holds a path's nodes against the texts of their keys, and of what is sealed.
func (m model) nodes(got []api.PNode, want ...[]string) {
	m.Helper()
	if len(got) != len(want) {
		m.Fatalf("got %v", got)
	}
	for k, n := range got {
		if len(n.Seals) != len(want[k])-1 {
			m.Fatalf("got %v", got)
		}
		for j, x := range append([]int{n.Enc}, n.Seals...) {
			m.shown("a node's", want[k][j], x)
		}
	}
}

// The chapter's example.
func TestTwoMembers(t *testing.T) {
	m := start(t)
	u, aad := m.full(2), m.text("aad")
	l := m.leaf(9)
	made := m.makes(u, 0, l, m.atom(60), 70, aad)
	first := pathOf("#60")
	enc, leafEnc := pubOf(nodeOf(first)), pubOf(leafOf("#60"))
	m.nodes(made.Path.Nodes, []string{enc, "seal(pub(#2),\"aad\"," + first + ",#70)"})
	said := vouch(enc, `""`, member(1))
	for _, x := range []api.TNode{made.Path.Leaf, made.Tree[0]} {
		if x.Kind != api.Leaf || x.Id != l.Id || x.Sig != l.Sig || len(x.Unmerged) != 0 {
			t.Errorf("got %v", x)
		}
		m.shown("the leaf's Enc", leafEnc, x.Enc)
		m.shown("the leaf's Hash", said, x.Hash)
	}
	top := made.Tree[1]
	if len(made.Tree) != 3 || top.Kind != api.Parent || top.Id != 0 || top.Sig != 0 || len(top.Unmerged) != 0 || text(made.Tree[2:]) != text(u[2:]) {
		t.Errorf("got %v", made.Tree)
	}
	m.shown("the root's Enc", enc, top.Enc)
	m.shown("the root's Hash", `""`, top.Hash)
	m.keys("the maker's", made.Keys, "0", leafOf("#60"), "1", nodeOf(first))
	m.shown("the commit secret", pathOf(first), made.Secret)
	if made.Draws != 1 {
		t.Errorf("got %d", made.Draws)
	}

	// The other one takes it.
	took, e := path.Take(m.a, u, 0, made.Path, 1, []api.Secret{{Node: 2, Sk: m.atom(2)}}, aad)
	if e != api.OK || !ratchet.Same(took.Tree, made.Tree) || took.Secret != made.Secret || took.Draws != 0 || pathText(took.Path) != pathText(made.Path) {
		t.Errorf("got %v, %d", took, e)
	}
	m.keys("the taker's", took.Keys, "2", "#2", "1", nodeOf(first))

	// And the other way round.
	made = m.makes(u, 1, u[2], m.atom(61), 0, m.atom(0))
	first = pathOf("#61")
	enc = pubOf(nodeOf(first))
	m.nodes(made.Path.Nodes, []string{enc, "seal(pub(#0),#0," + first + ",#0)"})
	m.shown("the leaf's Hash", vouch(enc, `""`, member(0)), made.Path.Leaf.Hash)
	m.keys("the maker's", made.Keys, "2", leafOf("#61"), "1", nodeOf(first))
	took = m.takes(u, 1, made, 0, []api.Secret{{Node: 0, Sk: m.atom(0)}}, m.atom(0))
	m.keys("the taker's", took.Keys, "0", "#0", "1", nodeOf(first))
}

// A path without nodes: its commit secret is the first path secret, and there is nothing to vouch for.
func TestAlone(t *testing.T) {
	m := start(t)
	u := m.full(1)
	made := m.makes(u, 0, u[0], m.atom(60), 70, m.atom(61))
	m.shown("the commit secret", pathOf("#60"), made.Secret)
	m.shown("the leaf's Hash", `""`, made.Path.Leaf.Hash)
	m.shown("the leaf's Enc", pubOf(leafOf("#60")), made.Path.Leaf.Enc)
	m.keys("the maker's", made.Keys, "0", leafOf("#60"))
	if len(made.Path.Nodes) != 0 || made.Draws != 0 || len(made.Tree) != 1 || text(made.Tree) != text([]api.TNode{made.Path.Leaf}) {
		t.Errorf("got %v", made)
	}
	for _, me := range []int{0, 1, -1} {
		if took, e := path.Take(m.a, u, 0, made.Path, me, made.Keys, m.atom(61)); e != api.ErrNone || !nothing(took) {
			t.Errorf("Take by %d: got %v, %d", me, took, e)
		}
	}
	// Alone in a greater tree there is none: it would have been truncated. Alone but for who is fresh there is a node.
	u = m.full(2)
	made = m.makes(u, 0, u[0], m.atom(60), 70, m.atom(61), 1)
	m.nodes(made.Path.Nodes, []string{pubOf(nodeOf(pathOf("#60")))})
	m.shown("the commit secret", pathOf(pathOf("#60")), made.Secret)
}

// One seal for each node of the resolution beside, in order, and one draw.
func TestFourMembers(t *testing.T) {
	m := start(t)
	u, aad := m.full(4), m.atom(99)
	made := m.makes(u, 1, u[2], m.atom(60), 70, aad)
	first := pathOf("#60")
	next := pathOf(first)
	low, high := pubOf(nodeOf(first)), pubOf(nodeOf(next))
	m.nodes(made.Path.Nodes,
		[]string{low, "seal(pub(#0),#99," + first + ",#70)"},
		[]string{high, "seal(pub(#4),#99," + next + ",#71)", "seal(pub(#6),#99," + next + ",#72)"})
	said := vouch(high, `""`, node(`""`, member(2), member(3)))
	m.shown("node 3", high, made.Tree[3].Enc)
	m.shown("node 3", `""`, made.Tree[3].Hash)
	m.shown("node 1", low, made.Tree[1].Enc)
	m.shown("node 1", said, made.Tree[1].Hash)
	m.shown("the leaf", vouch(low, said, member(0)), made.Tree[2].Hash)
	m.keys("the maker's", made.Keys, "2", leafOf("#60"), "1", nodeOf(first), "3", nodeOf(next))
	m.shown("the commit secret", pathOf(next), made.Secret)
	if made.Draws != 3 || made.Tree[5].Kind != api.Blank {
		t.Errorf("got %v", made)
	}
	for me, want := range map[int][]string{0: {"0", "#0", "1", nodeOf(first), "3", nodeOf(next)}, 2: {"4", "#4", "3", nodeOf(next)}, 3: {"6", "#6", "3", nodeOf(next)}} {
		took := m.takes(u, 1, made, me, m.held(u, me), aad)
		m.keys("who takes it", took.Keys, want...)
	}
	// What was above both goes no longer, what was beside does.
	u = made.Tree
	made = m.makes(u, 2, u[4], m.atom(61), 80, aad)
	first = pathOf("#61")
	next = pathOf(first)
	m.nodes(made.Path.Nodes,
		[]string{pubOf(nodeOf(first)), "seal(pub(#6),#99," + first + ",#80)"},
		[]string{pubOf(nodeOf(next)), "seal(" + low + ",#99," + next + ",#81)"})
	took := m.takes(u, 2, made, 0, []api.Secret{{Node: 0, Sk: m.atom(0)}, {Node: 1, Sk: m.derived(m.derived(m.atom(60), "path"), "node")}, {Node: 3, Sk: m.derived(m.derived(m.derived(m.atom(60), "path"), "path"), "node")}}, aad)
	m.keys("who has node 1's", took.Keys, "0", "#0", "1", nodeOf(pathOf("#60")), "3", nodeOf(next))
}

// A node whose other child has no one is none of the path's: it is Blank, and what is below vouches for the one above it.
func TestNobodyBeside(t *testing.T) {
	m := start(t)
	aad := m.atom(99)
	first := pathOf("#60")
	enc := pubOf(nodeOf(first))

	u := m.among(4, 0, 2, 3)
	u[1] = m.parent(1)
	u[3] = m.parent(3, 2)
	made := m.makes(u, 0, u[0], m.atom(60), 70, aad)
	m.nodes(made.Path.Nodes, []string{enc, "seal(pub(#4),#99," + first + ",#70)", "seal(pub(#6),#99," + first + ",#71)"})
	m.shown("the leaf", vouch(enc, `""`, node(`""`, member(2), member(3))), made.Tree[0].Hash)
	m.keys("the maker's", made.Keys, "0", leafOf("#60"), "3", nodeOf(first))
	if made.Tree[1].Kind != api.Blank || made.Tree[3].Kind != api.Parent || len(made.Tree[3].Unmerged) != 0 {
		t.Errorf("got %v", made.Tree)
	}
	m.takes(u, 0, made, 2, m.held(u, 2), aad)
	m.takes(u, 0, made, 3, m.held(u, 3), aad)

	// The lowest and the highest of three, and the one between.
	u = m.among(8, 0, 1, 7)
	made = m.makes(u, 0, u[0], m.atom(60), 70, aad)
	next := pathOf(first)
	low, high := pubOf(nodeOf(first)), pubOf(nodeOf(next))
	bare := func(i string) string { return `hash(list("leaf","` + i + `",""))` }
	said := vouch(high, `""`, node(`""`, node(`""`, bare("4"), bare("5")), node(`""`, bare("6"), member(7))))
	m.shown("node 1", said, made.Tree[1].Hash)
	m.shown("the leaf", vouch(low, said, member(1)), made.Tree[0].Hash)
	m.keys("the maker's", made.Keys, "0", leafOf("#60"), "1", nodeOf(first), "7", nodeOf(next))
	if made.Tree[3].Kind != api.Blank {
		t.Errorf("got %v", made.Tree)
	}
	took := m.takes(u, 0, made, 7, m.held(u, 7), aad)
	m.keys("the taker's", took.Keys, "14", "#14", "7", nodeOf(next))
	made = m.makes(u, 7, u[14], m.atom(60), 70, aad)
	m.nodes(made.Path.Nodes, []string{enc, "seal(pub(#0),#99," + first + ",#70)", "seal(pub(#2),#99," + first + ",#71)"})
	m.keys("the maker's", made.Keys, "14", leafOf("#60"), "7", nodeOf(first))
}

// Blank nodes, a leaf that is gone, Unmerged at several levels.
func TestRich(t *testing.T) {
	m := start(t)
	u, aad := m.rich(), m.atom(99)
	for _, c := range []struct {
		i    int
		path []int
		to   [][]int
	}{
		{0, []int{1, 3, 7}, [][]int{{2}, {6}, {9, 13, 12}}},
		{1, []int{1, 3, 7}, [][]int{{0}, {6}, {9, 13, 12}}},
		{3, []int{3, 7}, [][]int{{1}, {9, 13, 12}}},
		{4, []int{9, 11, 7}, [][]int{{10}, {13, 12}, {3, 6}}},
		{6, []int{13, 11, 7}, [][]int{{14}, {9}, {3, 6}}},
		{7, []int{13, 11, 7}, [][]int{{12}, {9}, {3, 6}}},
	} {
		made := m.makes(u, c.i, m.leaf(40), m.atom(60), 70, aad)
		var want [][]string
		s, draw := "#60", 70
		for _, l := range c.to {
			s = pathOf(s)
			texts := []string{pubOf(nodeOf(s))}
			for _, y := range l {
				texts = append(texts, "seal(pub(#"+strconv.Itoa(y)+"),#99,"+s+",#"+strconv.Itoa(draw)+")")
				draw++
			}
			want = append(want, texts)
		}
		m.nodes(made.Path.Nodes, want...)
		m.shown("the commit secret", pathOf(s), made.Secret)
		for x := range u {
			on, above := slices.Contains(c.path, x), slices.ContainsFunc(forks(u, c.i), func(f fork) bool { return f.at.x == x })
			n := made.Tree[x]
			if on && (n.Kind != api.Parent || len(n.Unmerged) != 0) || above && !on && n.Kind != api.Blank || !above && x != 2*c.i && text(made.Tree[x:x+1]) != text(u[x:x+1]) {
				t.Errorf("%d: node %d: got %v", c.i, x, n)
			}
		}
		if made.Draws != draw-70 {
			t.Errorf("%d: got %d", c.i, made.Draws)
		}
		for _, me := range ratchet.Members(u) {
			if me != c.i {
				m.takes(u, c.i, made, me, m.held(u, me), aad)
			}
		}
	}
}

// Nothing is sealed to leaves that come in with the path; what stands above them is.
func TestFresh(t *testing.T) {
	m := start(t)
	u, aad := m.rich(), m.atom(99)
	for _, c := range []struct {
		fresh []int
		to    [][]int
	}{
		{nil, [][]int{{2}, {6}, {9, 13, 12}}},
		{[]int{6}, [][]int{{2}, {6}, {9, 13}}},
		{[]int{6, 3}, [][]int{{2}, nil, {9, 13}}},
		{[]int{1}, [][]int{nil, {6}, {9, 13, 12}}},
		{[]int{3, 3, 1, 6, 1}, [][]int{nil, nil, {9, 13}}},
		{[]int{0, 2}, [][]int{{2}, {6}, {9, 13, 12}}},
		{[]int{4, 5, 7}, [][]int{{2}, {6}, {9, 13, 12}}},
		{[]int{-1, -3, 8, 12, 13, 9, greatest, least, least + 3, 1<<32 + 1, 1<<62 + 3}, [][]int{{2}, {6}, {9, 13, 12}}},
	} {
		made := m.makes(u, 0, u[0], m.atom(60), 70, aad, c.fresh...)
		draws := 0
		for k, n := range made.Path.Nodes {
			if len(n.Seals) != len(c.to[k]) {
				t.Errorf("%v: got %v", c.fresh, made.Path)
			}
			for j, x := range n.Seals {
				s, _ := m.a.Node(x)
				if drawn, _ := m.a.Node(s.L[3]); s.L[0] != u[c.to[k][j]].Enc || drawn.N != 70+draws {
					t.Errorf("%v: got %v", c.fresh, made.Path)
				}
				draws++
			}
		}
		if made.Draws != draws {
			t.Errorf("%v: got %d draws", c.fresh, made.Draws)
		}
		for _, me := range []int{1, 3, 4, 5, 6, 7} {
			if !slices.Contains(c.fresh, me) {
				m.takes(u, 0, made, me, m.held(u, me), aad, c.fresh...)
			} else if took, e := path.Take(m.a, u, 0, made.Path, me, m.held(u, me), aad, c.fresh...); e != api.ErrNone || !nothing(took) {
				t.Errorf("%v: Take by %d: got %v, %d", c.fresh, me, took, e)
			}
		}
	}
	// All beside: the path has its nodes, and no seal.
	u = m.full(4)
	made := m.makes(u, 2, u[4], m.atom(60), 70, aad, 0, 1, 3)
	m.nodes(made.Path.Nodes, []string{pubOf(nodeOf(pathOf("#60")))}, []string{pubOf(nodeOf(pathOf(pathOf("#60"))))})
	if made.Draws != 0 || len(made.Keys) != 3 {
		t.Errorf("got %v", made)
	}
}

// A leaf's Enc and Hash are made; what stood there does not matter, nor what kind of terms the others are.
func TestLeaf(t *testing.T) {
	m := start(t)
	u := m.full(4)
	l := u[0]
	want := m.makes(u, 0, l, m.atom(60), 70, m.atom(61))
	for _, x := range []int{-1, 0, 5, m.a.Len(), greatest, least} {
		l.Enc, l.Hash, l.Unmerged = x, x, []int{}
		if made := m.makes(u, 0, l, m.atom(60), 70, m.atom(61)); madeText(made) != madeText(want) {
			t.Errorf("%d: got %s", x, madeText(made))
		}
	}
	// The term 0, wherever it stands; the first terms are Atoms, the last one is what was made last.
	l.Id, l.Sig = 0, 0
	made := m.makes(u, 3, l, 0, 0, 0)
	m.takes(u, 3, made, 0, m.held(u, 0), 0)
	last := m.list(m.text("last"))
	l.Id, l.Sig = last, last
	made, e := path.Make(m.a, u, 3, l, last, 1<<40, last)
	if e != api.OK || made.Path.Leaf.Id != last || made.Path.Leaf.Sig != last {
		t.Errorf("got %v, %d", made, e)
	}
	m.shown("the commit secret", pathOf(pathOf(pathOf(`list("last")`))), made.Secret)
}

// The greatest numbers that can be drawn.
func TestGreatestDraws(t *testing.T) {
	m := start(t)
	u := m.full(4)
	made, e := path.Make(m.a, u, 0, u[0], m.atom(60), greatest-2, m.atom(61))
	if e != api.OK || made.Draws != 3 {
		t.Fatalf("got %v, %d", made, e)
	}
	n, _ := m.a.Node(made.Path.Nodes[1].Seals[1])
	m.shown("the last one drawn", "#9223372036854775807", n.L[3])
	for draw, want := range map[int]api.Errno{greatest - 1: api.ErrArg, greatest: api.ErrArg, -1: api.ErrArg, least: api.ErrArg, 0: api.OK} {
		if made, e := path.Make(m.a, u, 0, u[0], m.atom(60), draw, m.atom(61)); e != want || e != api.OK && !nothing(made) {
			t.Errorf("%d: got %v, %d", draw, made, e)
		}
	}
	// Where nothing is drawn, any number from 0 on may be.
	if made, e := path.Make(m.a, u, 0, u[0], m.atom(60), greatest, m.atom(61), 1, 2, 3); e != api.OK || made.Draws != 0 {
		t.Errorf("got %v, %d", made, e)
	}
	if made, e := path.Make(m.a, u, 0, u[0], m.atom(60), -1, m.atom(61), 1, 2, 3); e != api.ErrArg || !nothing(made) {
		t.Errorf("got %v, %d", made, e)
	}
}

// As great a tree as there may be, without Parents: a path of 8 nodes, and more seals than a List may have parts.
func TestGreatest(t *testing.T) {
	m := start(t)
	u, aad := m.full(256), m.atom(99)
	made := m.makes(u, 255, u[510], m.atom(60), 5000, aad)
	if len(made.Path.Nodes) != 8 || len(made.Path.Nodes[7].Seals) != 128 || made.Draws != 255 {
		t.Errorf("got %v", made.Path)
	}
	if is, e := treehash.Valid(m.a, made.Tree); !is || e != api.OK {
		t.Errorf("got %v, %d", is, e)
	}
	for _, me := range []int{0, 1, 63, 64, 127, 128, 192, 253, 254} {
		m.takes(u, 255, made, me, m.held(u, me), aad)
	}
}
