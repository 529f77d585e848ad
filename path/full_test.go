package path_test

import (
	"testing"

	"cassock/api"
	"cassock/path"
)

// In an arena that is full a path is made of what is there; what is not there is too much.
func TestFullArena(t *testing.T) {
	m := start(t)
	u, secret, aad := m.rich(), m.atom(60), m.atom(99)
	made := m.makes(u, 0, u[0], secret, 70, aad)
	other := copiedPath(made.Path)
	other.Nodes[2].Enc = m.pub(aad)
	sk, last := m.held(u, 6), m.text("last")
	m.fill(0)
	if again, e := path.Make(m.a, u, 0, u[0], secret, 70, aad); e != api.OK || madeText(again) != madeText(made) {
		t.Errorf("got %s, %d", madeText(again), e)
	}
	m.takes(u, 0, made, 6, sk, aad)
	if e := path.Shape(m.a, u, 0, made.Path); e != api.OK {
		t.Errorf("got %d", e)
	}
	m.noPath("another secret", api.ErrLong, u, 0, u[0], aad, 70, aad)
	m.noPath("a secret that is the last term but those that fill", api.ErrLong, u, 0, u[0], last, 70, aad)
	m.noPath("another draw", api.ErrLong, u, 0, u[0], secret, 69, aad)
	m.noPath("another aad", api.ErrLong, u, 0, u[0], secret, 70, secret)
	m.noPath("another leaf", api.ErrLong, u, 1, u[2], secret, 70, aad)
	m.misfits("another public key", api.ErrLong, u, 0, other)
	// What may not be, is not there or does not go with the tree is told first.
	m.noPath("no tree", api.ErrArg, u[:14], 0, u[0], aad, 70, aad)
	m.noPath("no draw", api.ErrArg, u, 0, u[0], aad, -1, aad)
	m.noPath("no term", api.ErrArg, u, 0, u[0], api.MaxTerms, 70, aad)
	m.noPath("draws that are none", api.ErrArg, u, 0, u[0], aad, greatest-3, aad)
	m.noPath("no leaf", api.ErrNone, u, 2, u[0], aad, 70, aad)
	for _, x := range []int{-1, api.MaxTerms, api.MaxTerms + 1} {
		other.Leaf.Hash = x
		m.misfits("no Hash", api.ErrPath, u, 0, other)
	}
	other.Leaf.Hash, other.Leaf.Unmerged = made.Path.Leaf.Hash, []int{0}
	m.misfits("no Leaf", api.ErrPath, u, 0, other)
	m.misfits("no leaf", api.ErrNone, u, 2, other)
	m.refuses("no aad", api.ErrArg, u, 0, made.Path, 6, sk, api.MaxTerms)
	m.refuses("no key", api.ErrNone, u, 0, made.Path, 6, nil, aad)
	m.refuses("another aad", api.ErrOpen, u, 0, made.Path, 6, sk, secret)
	m.refuses("a key that is no term", api.ErrOpen, u, 0, made.Path, 6, []api.Secret{{Node: 12, Sk: api.MaxTerms}}, aad)
	v := copied(u)
	v[12].Enc = aad
	m.noPath("no public key", api.ErrArg, v, 0, u[0], aad, 70, aad)
	v[12].Enc = api.MaxTerms
	m.noPath("no term", api.ErrArg, v, 0, u[0], aad, 70, aad)
	m.misfits("no term", api.ErrArg, v, 0, made.Path)
}

// Also one that runs full on the way, early or late.
func TestNearlyFullArena(t *testing.T) {
	begin := func() (model, []api.TNode, int, int) {
		m := start(t)
		u := m.rich()
		return m, u, m.atom(60), m.atom(99)
	}
	m, u, secret, aad := begin()
	n := m.a.Len()
	m.makes(u, 0, u[0], secret, 70, aad)
	needs := m.a.Len() - n
	for _, room := range []int{0, 1, 2, 3, 5, 8, 13, 21, needs / 2, needs - 5, needs - 2, needs - 1} {
		m, u, secret, aad := begin()
		m.fill(room)
		for range 2 {
			if made, e := path.Make(m.a, u, 0, u[0], secret, 70, aad); e != api.ErrLong || !nothing(made) {
				t.Errorf("room for %d: got %s, %d", room, madeText(made), e)
			}
		}
	}
	m, u, secret, aad = begin()
	m.fill(needs)
	made := m.makes(u, 0, u[0], secret, 70, aad)
	if m.a.Len() != api.MaxTerms || made.Draws != 5 {
		t.Errorf("got %d terms, %v", m.a.Len(), made)
	}
}

// What a taker makes: what there was no room for is told, and what it could make ahead of that.
func TestTakeInNearlyFullArena(t *testing.T) {
	for room := range 5 {
		m := start(t)
		u, aad := m.rich(), m.atom(99)
		// The keys of what is sealed to 4 are not made yet, but for those of the node itself.
		high := m.atom(61)
		sk := m.derived(high, "node")
		enc := m.pub(sk)
		var nodes []api.PNode
		for range 3 {
			nodes = append(nodes, api.PNode{Enc: enc, Seals: []int{m.of(api.Seal, u[10].Enc, aad, high, aad)}})
		}
		nodes[1].Seals = append(nodes[1].Seals, aad)
		nodes[2].Seals = append(nodes[2].Seals, aad)
		p := m.vouched(u, 4, api.Path{Leaf: u[8], Nodes: nodes})
		other := copiedPath(p)
		other.Nodes[0].Enc = aad
		other = m.vouched(u, 4, other)
		held := m.held(u, 5)
		m.text("path")
		m.fill(room)
		if e := path.Shape(m.a, u, 4, p); e != api.OK {
			t.Fatalf("got %d", e)
		}
		// The first node's key is told to be another one, with or without room for more.
		m.refuses("another public key", api.ErrPath, u, 4, other, 5, held, aad)
		// The next one's needs its path secret, its secret key and its public one.
		want := api.ErrLong
		if room >= 3 {
			want = api.ErrPath
		}
		m.refuses("the next one's", want, u, 4, p, 5, held, aad)
	}
	// The commit secret is the last one that there must be room for.
	for room := range 2 {
		m := start(t)
		u := m.full(2)
		aad, secret := m.atom(99), m.atom(61)
		sk := m.derived(secret, "node")
		m.text("path")
		p := m.vouched(u, 0, api.Path{Leaf: u[0], Nodes: []api.PNode{{Enc: m.pub(sk), Seals: []int{m.of(api.Seal, u[2].Enc, aad, secret, aad)}}}})
		held := m.held(u, 1)
		m.fill(room)
		if room == 0 {
			m.refuses("no room", api.ErrLong, u, 0, p, 1, held, aad)
		} else if took, e := path.Take(m.a, u, 0, p, 1, held, aad); e != api.OK || took.Secret != m.a.Len()-1 || took.Keys[1].Sk != sk {
			t.Errorf("got %v, %d", took, e)
		}
	}
}

// crowded is a tree of 256 leaves, of which so many are Unmerged at node 127 and at the root, and a path of leaf 255 that has as many nodes and seals as there have to be.
func (m model) crowded(unmerged int) ([]api.TNode, api.Path) {
	u := m.full(256)
	u[127], u[255] = m.parent(127), m.parent(255)
	for i := range unmerged {
		u[127].Unmerged = append(u[127].Unmerged, i)
		u[255].Unmerged = append(u[255].Unmerged, i)
	}
	mustBe(m, u)
	p := api.Path{Leaf: u[510]}
	for _, f := range ways(u, 255) {
		n := api.PNode{Enc: u[0].Enc}
		for range sealedTo(u, f.beside, nil) {
			n.Seals = append(n.Seals, u[0].Id)
		}
		p.Nodes = append(p.Nodes, n)
	}
	return u, p
}

// More Unmerged beside the way than a List may have parts: whoever goes another way may have them.
func TestTooManyUnmerged(t *testing.T) {
	m := start(t)
	u, p := m.crowded(65)
	l, secret, aad := m.leaf(0), m.atom(6000), m.atom(6001)
	// Those at its own nodes are gone with the path.
	made := m.makes(u, 0, l, secret, 7000, aad)
	if made.Tree[127].Kind != api.Parent || len(made.Tree[127].Unmerged) != 0 {
		t.Errorf("got %v", made.Tree[127])
	}
	m.noPath("65", api.ErrArg, u, 255, l, secret, 7000, aad)
	m.misfits("65", api.ErrArg, u, 255, p)
	// A path that has a node less has no new tree, in which there would be too many; a leaf that is none has no path.
	less := p
	less.Nodes = p.Nodes[1:]
	m.misfits("65, and a node less", api.ErrPath, u, 255, less)
	m.misfits("65, and no leaf", api.ErrNone, u, 256, p)
	m.noPath("65, and no leaf", api.ErrNone, u, 256, l, secret, 7000, aad)
	// As many as there may be.
	u, _ = m.crowded(64)
	m.makes(u, 255, l, secret, 7000, aad)
	u[255] = api.TNode{}
	m.makes(u, 128, l, secret, 7000, aad)
}

// They are told ahead of an arena that is full, also where that has no terms but the tree's.
func TestTooManyUnmergedInFullArena(t *testing.T) {
	for more, want := range map[int]api.Errno{64: api.ErrLong, 65: api.ErrArg} {
		for _, bare := range []bool{true, false} {
			m := start(t)
			u, p := m.crowded(more)
			l, other := m.leaf(0), m.atom(6000)
			if !bare {
				m.text("")
				m.derived(other, "leaf")
			}
			m.fill(0)
			m.noPath("full", want, u, 255, l, l.Id, 7000, l.Id)
			m.misfits("full", want, u, 255, p)
		}
	}
}
