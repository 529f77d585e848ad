package path_test

import (
	"slices"
	"testing"

	"cassock/api"
	"cassock/path"
)

// refuses holds what a member that can't take a path is told; nothing stands beside it.
func (m model) refuses(why string, want api.Errno, u []api.TNode, i int, p api.Path, me int, keys []api.Secret, aad int, fresh ...int) {
	m.Helper()
	was := text(u) + pathText(p) + keysText(keys)
	if took, e := path.Take(m.a, u, i, p, me, keys, aad, fresh...); e != want || !nothing(took) {
		m.Errorf("%s: got %s, %d, not %d", why, madeText(took), e, want)
	}
	if text(u)+pathText(p)+keysText(keys) != was {
		m.Errorf("%s: what was handed in is another one now", why)
	}
}

// Who takes a path: who has a key of what is sealed to, and is there, and comes neither with the path nor makes it.
func TestWhoTakes(t *testing.T) {
	m := start(t)
	u, aad := m.rich(), m.atom(99)
	made := m.makes(u, 4, u[8], m.atom(60), 70, aad)
	for _, me := range []int{-1, -2, -4, -8, -9, -16, -1 << 62, -1 << 63, -1<<63 + 4, 8, 9, 10, 14, 15, 16, 255, 256, 1 << 31, 1 << 32, 1<<32 + 1, 1 << 62, 1<<62 + 1, 1<<63 - 1} {
		m.refuses("no leaf", api.ErrNone, u, 4, made.Path, me, m.held(u, 1), aad)
		m.refuses("no leaf, fresh", api.ErrNone, u, 4, made.Path, me, m.held(u, 1), aad, me)
	}
	m.refuses("a Blank leaf", api.ErrNone, u, 4, made.Path, 2, []api.Secret{{Node: 4, Sk: m.atom(4)}, {Node: 3, Sk: m.atom(3)}}, aad)
	m.refuses("the maker", api.ErrNone, u, 4, made.Path, 4, made.Keys, aad)
	m.refuses("the maker, with all keys", api.ErrNone, u, 4, made.Path, 4, append(m.held(u, 1), m.held(u, 7)...), aad)
	// A fresh one to whose parent something is sealed has a key, and is refused.
	m.takes(u, 4, made, 1, m.held(u, 1), aad, 0)
	m.refuses("fresh", api.ErrNone, u, 4, made.Path, 0, m.held(u, 0), aad, 0)
	m.refuses("fresh among others", api.ErrNone, u, 4, made.Path, 0, m.held(u, 0), aad, 4, 2, 7, 0, -1)
	m.takes(u, 4, made, 0, m.held(u, 0), aad)
	m.takes(u, 4, made, 0, m.held(u, 0), aad, 1, 2, 4, 7)
}

// The key that is asked for is that of the resolution's node; the first one of that node, whatever it is, is tried.
func TestWhichKey(t *testing.T) {
	m := start(t)
	u, aad := m.rich(), m.atom(99)
	made := m.makes(u, 4, u[8], m.atom(60), 70, aad)
	key := func(x, sk int) api.Secret { return api.Secret{Node: x, Sk: m.atom(sk)} }
	// Beside 4 stands 10; of 7 node 13's, of 6 its own, which is Unmerged there; of 0 and 1 node 3's, of 3 its own.
	for me, x := range map[int]int{5: 10, 7: 13, 6: 12, 0: 3, 1: 3, 3: 6} {
		m.takes(u, 4, made, me, []api.Secret{key(x, x)}, aad)
		m.takes(u, 4, made, me, []api.Secret{key(x^1, x), key(x, x), key(x, 50)}, aad)
		m.takes(u, 4, made, me, []api.Secret{{Node: -1, Sk: -1}, {Node: greatest, Sk: least}, key(x, x), key(x, x)}[2:], aad)
		m.refuses("no keys", api.ErrNone, u, 4, made.Path, me, nil, aad)
		m.refuses("empty", api.ErrNone, u, 4, made.Path, me, []api.Secret{}, aad)
		m.refuses("another node's", api.ErrNone, u, 4, made.Path, me, []api.Secret{key(x^1, x), key(x+2, x), key(-x, x), key(x-256, x)}, aad)
		m.refuses("another first", api.ErrOpen, u, 4, made.Path, me, []api.Secret{key(x, 50), key(x, x)}, aad)
		m.refuses("another one", api.ErrOpen, u, 4, made.Path, me, []api.Secret{key(x, 51)}, aad)
		m.refuses("the public one", api.ErrOpen, u, 4, made.Path, me, []api.Secret{{Node: x, Sk: u[x].Enc}}, aad)
		// What is no term does not open, either; the first one of the node counts, and an aad that is no term is told ahead.
		for _, sk := range []int{-1, -2, m.a.Len(), m.a.Len() + 1, m.a.Len() + 100, 1 << 30, 1 << 40, 1<<32 + m.atom(x), greatest, least} {
			m.refuses("no term", api.ErrOpen, u, 4, made.Path, me, []api.Secret{{Node: x, Sk: sk}}, aad)
			m.refuses("no term first", api.ErrOpen, u, 4, made.Path, me, []api.Secret{key(x^1, x), {Node: x, Sk: sk}, key(x, x)}, aad)
			m.refuses("no term, and no aad", api.ErrArg, u, 4, made.Path, me, []api.Secret{{Node: x, Sk: sk}}, -1)
			m.takes(u, 4, made, me, []api.Secret{key(x, x), {Node: x, Sk: sk}}, aad)
		}
	}
	// A leaf's key does not do where its parent's is asked for.
	m.refuses("the leaf's", api.ErrNone, u, 4, made.Path, 0, []api.Secret{key(0, 0), key(1, 1), key(7, 7)}, aad)
	m.refuses("the leaf's", api.ErrNone, u, 4, made.Path, 7, []api.Secret{key(14, 14), key(7, 7)}, aad)
}

// Keys of what is taken: those that go with the new tree, in order, then the path's; also such as have nothing to do with the member.
func TestKeysOfWhatIsTaken(t *testing.T) {
	m := start(t)
	u, aad := m.rich(), m.atom(99)
	made := m.makes(u, 4, u[8], m.atom(60), 70, aad)
	key := func(x, sk int) api.Secret { return api.Secret{Node: x, Sk: m.atom(sk)} }
	keys := []api.Secret{key(7, 7), key(13, 13), key(9, 9), key(3, 3), key(8, 8), key(14, 14), key(13, 12), key(3, 3), key(5, 5), key(20, 20), {Node: -1, Sk: -1}, made.Keys[3], made.Keys[0]}
	took, e := path.Take(m.a, u, 4, made.Path, 7, keys, aad)
	want := []api.Secret{key(13, 13), key(3, 3), key(14, 14), key(3, 3), made.Keys[3], made.Keys[0], made.Keys[2], made.Keys[3]}
	if e != api.OK || !slices.Equal(took.Keys, want) {
		t.Errorf("got %v, %d, not %v", took.Keys, e, want)
	}
}

// Another aad, another one's seal, a seal that stands elsewhere, what is none.
func TestWhatDoesNotOpen(t *testing.T) {
	m := start(t)
	u, aad := m.rich(), m.atom(99)
	made := m.makes(u, 0, u[0], m.atom(60), 70, aad)
	other := m.makes(u, 0, u[0], m.atom(61), 70, m.atom(98))
	m.refuses("another aad", api.ErrOpen, u, 0, made.Path, 1, m.held(u, 1), m.atom(98))
	m.refuses("another aad, of number 0", api.ErrOpen, u, 0, made.Path, 1, m.held(u, 1), 0)
	for _, aad := range []int{-1, m.a.Len(), m.a.Len() + 1, greatest, least, 1 << 32} {
		m.refuses("no aad", api.ErrArg, u, 0, made.Path, 1, m.held(u, 1), aad)
		m.refuses("no aad, and no member", api.ErrArg, u, 0, made.Path, 2, nil, aad)
	}
	// Node 7's seals are to 9, 13, 12.
	seals := made.Path.Nodes[2].Seals
	for name, change := range map[string]func(p *api.Path){
		"exchanged":         func(p *api.Path) { p.Nodes[2].Seals = []int{seals[1], seals[0], seals[2]} },
		"round":             func(p *api.Path) { p.Nodes[2].Seals = []int{seals[2], seals[0], seals[1]} },
		"of node 1":         func(p *api.Path) { p.Nodes[2].Seals[0] = p.Nodes[0].Seals[0] },
		"of another path":   func(p *api.Path) { p.Nodes[2].Seals[0] = other.Path.Nodes[2].Seals[0] },
		"none":              func(p *api.Path) { p.Nodes[2].Seals[0] = aad },
		"what is sealed":    func(p *api.Path) { p.Nodes[2].Seals[0] = m.derived(m.atom(60), "path") },
		"of the public key": func(p *api.Path) { p.Nodes[2].Seals[0] = u[9].Enc },
		"of no public key":  func(p *api.Path) { p.Nodes[2].Seals[0] = m.of(api.Seal, m.atom(9), aad, m.atom(1), m.atom(70)) },
		"the term 0":        func(p *api.Path) { p.Nodes[2].Seals[0] = 0 },
	} {
		p := copiedPath(made.Path)
		change(&p)
		for _, me := range []int{4, 5} {
			m.refuses(name, api.ErrOpen, u, 0, p, me, m.held(u, me), aad)
		}
		// Others do not look there, where theirs is still in its place.
		if name != "round" {
			if took, e := path.Take(m.a, u, 0, p, 6, m.held(u, 6), aad); e != api.OK || took.Secret != made.Secret {
				t.Errorf("%s: got %v, %d", name, took, e)
			}
		}
		if took, e := path.Take(m.a, u, 0, p, 1, m.held(u, 1), aad); e != api.OK || took.Secret != made.Secret || pathText(took.Path) != pathText(p) {
			t.Errorf("%s: got %v, %d", name, took, e)
		}
	}
}

// vouched is p, its Leaf's Hash as in the new tree of p.
func (m model) vouched(u []api.TNode, i int, p api.Path) api.Path {
	var enc []int
	for _, n := range p.Nodes {
		enc = append(enc, n.Enc)
	}
	p.Leaf = m.grown(u, i, p.Leaf, enc)[2*i]
	return p
}

// A node's public key is not that of its path secret: whoever finds it out is told so; who is above it does not.
func TestAnotherPublicKey(t *testing.T) {
	m := start(t)
	u, aad := m.rich(), m.atom(99)
	made := m.makes(u, 0, u[0], m.atom(60), 70, aad)
	// Who finds out, of the nodes 1, 3 and 7.
	for k, who := range [][]int{{1}, {1, 3}, {1, 3, 4, 5, 6, 7}} {
		for _, enc := range []int{m.pub(m.atom(50)), made.Path.Nodes[(k+1)%3].Enc, m.atom(50), made.Keys[k+1].Sk, 0} {
			p := copiedPath(made.Path)
			p.Nodes[k].Enc = enc
			if e := path.Shape(m.a, u, 0, p); e != api.ErrPath {
				t.Errorf("%d: got %d", k, e)
			}
			p = m.vouched(u, 0, p)
			if e := path.Shape(m.a, u, 0, p); e != api.OK {
				t.Errorf("%d: got %d", k, e)
			}
			for _, me := range []int{1, 3, 4, 5, 6, 7} {
				if slices.Contains(who, me) {
					m.refuses("another public key", api.ErrPath, u, 0, p, me, m.held(u, me), aad)
				} else if took, e := path.Take(m.a, u, 0, p, me, m.held(u, me), aad); e != api.OK || took.Secret != made.Secret || took.Tree[[]int{1, 3, 7}[k]].Enc != enc {
					t.Errorf("%d: Take by %d: got %v, %d", k, me, took, e)
				}
			}
		}
	}
	// What is sealed is another secret: none of its keys are the path's.
	p := copiedPath(made.Path)
	p.Nodes[1].Seals[0] = m.of(api.Seal, u[6].Enc, aad, m.atom(60), m.atom(1))
	m.refuses("another secret", api.ErrPath, u, 0, p, 3, m.held(u, 3), aad)
	p.Nodes[1].Seals[0] = m.of(api.Seal, u[6].Enc, aad, m.derived(m.atom(60), "path"), m.atom(1))
	m.refuses("the one below", api.ErrPath, u, 0, p, 3, m.held(u, 3), aad)
	// What was drawn for it does not matter, nor which term it is.
	p.Nodes[1].Seals[0] = m.of(api.Seal, u[6].Enc, aad, m.derived(m.derived(m.atom(60), "path"), "path"), m.text("drawn"))
	if took, e := path.Take(m.a, u, 0, p, 3, m.held(u, 3), aad); e != api.OK || took.Secret != made.Secret {
		t.Errorf("got %v, %d", took, e)
	}
}

// Where several errors apply, it is the one that the chapter names first.
func TestOrderOfTakesErrors(t *testing.T) {
	m := start(t)
	u, aad := m.rich(), m.atom(99)
	made := m.makes(u, 0, u[0], m.atom(60), 70, aad)
	bad := copiedPath(made.Path)
	bad.Leaf.Hash = aad
	wrong := m.vouched(u, 0, api.Path{Leaf: bad.Leaf, Nodes: []api.PNode{{Enc: aad, Seals: []int{aad}}, {Enc: aad, Seals: []int{aad}}, {Enc: aad, Seals: []int{aad, aad, aad}}}})
	m.refuses("no tree", api.ErrArg, u[:14], 2, bad, 2, nil, -1)
	m.refuses("no leaf", api.ErrNone, u, 2, bad, 2, nil, -1)
	m.refuses("no path", api.ErrPath, u, 0, bad, 2, nil, -1)
	m.refuses("no aad", api.ErrArg, u, 0, wrong, 2, nil, -1)
	m.refuses("no member", api.ErrNone, u, 0, wrong, 2, nil, aad)
	m.refuses("no key", api.ErrNone, u, 0, wrong, 1, nil, aad)
	m.refuses("not opened", api.ErrOpen, u, 0, wrong, 1, m.held(u, 1), aad)
	wrong.Nodes[0].Seals[0] = made.Path.Nodes[0].Seals[0]
	m.refuses("another key", api.ErrPath, u, 0, wrong, 1, m.held(u, 1), aad)
}
