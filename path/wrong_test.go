package path_test

import (
	"slices"
	"strconv"
	"testing"

	"cassock/api"
	"cassock/path"
	"cassock/term"
)

// noPath holds what is told of arguments of which no path is made; nothing stands beside it, and no term is made.
func (m model) noPath(why string, want api.Errno, u []api.TNode, i int, l api.TNode, secret, draw, aad int, fresh ...int) {
	m.Helper()
	n, was := m.a.Len(), text(u)
	if made, e := path.Make(m.a, u, i, l, secret, draw, aad, fresh...); e != want || !nothing(made) {
		m.Errorf("%s: Make: got %s, %d, not %d", why, madeText(made), e, want)
	}
	if m.a.Len() != n || text(u) != was {
		m.Errorf("%s: Make: %d terms more, and %s", why, m.a.Len()-n, text(u))
	}
}

// misfits holds what is told of a path that does not go with a tree, by Shape and by Take.
func (m model) misfits(why string, want api.Errno, u []api.TNode, i int, p api.Path, fresh ...int) {
	m.Helper()
	if e := path.Shape(m.a, u, i, p, fresh...); e != want {
		m.Errorf("%s: Shape: got %d, not %d", why, e, want)
	}
	for _, me := range []int{0, 1, i, -1} {
		m.refuses(why, want, u, i, p, me, []api.Secret{{Node: 0, Sk: 0}, {Node: 2, Sk: 0}}, 0, fresh...)
	}
	m.refuses(why, want, u, i, p, 1, nil, -1, fresh...)
}

// trees are such as may not be.
func (m model) trees() map[string][]api.TNode {
	l := map[string][]api.TNode{"nil": nil, "empty": {}, "nobody": m.among(1), "nobody of 4": m.among(4), "nobody on the right": m.among(4, 0, 1), "a root alone": {{}, m.parent(1), {}}}
	for _, n := range []int{2, 4, 5, 6, 8, 9, 13, 14, 16, 29, 510, 512, 513, 1023} {
		u := make([]api.TNode, n)
		for x := 0; x < n; x += 2 {
			u[x] = m.leaf(x / 2)
		}
		l[strconv.Itoa(n)+" nodes"] = u
	}
	for name, change := range map[string]func(u []api.TNode){
		"a Parent at a leaf's":    func(u []api.TNode) { u[0] = m.parent(1) },
		"a Leaf at a parent's":    func(u []api.TNode) { u[1] = m.leaf(1) },
		"a Leaf at the root":      func(u []api.TNode) { u[7] = m.leaf(1) },
		"a kind 3":                func(u []api.TNode) { u[2].Kind = 3 },
		"a kind -1":               func(u []api.TNode) { u[3].Kind = -1 },
		"a Blank one with a name": func(u []api.TNode) { u[4].Id = 1 },
		"a Blank one with a leaf": func(u []api.TNode) { u[5].Unmerged = []int{3} },
		"a Leaf with a leaf":      func(u []api.TNode) { u[0].Unmerged = []int{0} },
		"a Parent with a name":    func(u []api.TNode) { u[13].Id = 1 },
		"falling":                 func(u []api.TNode) { u[7].Unmerged = []int{6, 3} },
		"twice":                   func(u []api.TNode) { u[7].Unmerged = []int{3, 3, 6} },
		"of no leaf":              func(u []api.TNode) { u[7].Unmerged = []int{3, 6, 8} },
		"of a great number":       func(u []api.TNode) { u[7].Unmerged = []int{3, 6, greatest} },
		"of the least number":     func(u []api.TNode) { u[1].Unmerged = []int{least} },
		"of a leaf elsewhere":     func(u []api.TNode) { u[9].Unmerged = []int{0} },
		"of a Blank leaf":         func(u []api.TNode) { u[3].Unmerged = []int{2} },
		"not of the one below":    func(u []api.TNode) { u[3].Unmerged = nil },
	} {
		u := m.rich()
		change(u)
		l[name] = u
	}
	return l
}

func TestNoSuchTree(t *testing.T) {
	m := start(t)
	l, aad := m.leaf(0), m.atom(99)
	made := m.makes(m.rich(), 0, l, m.atom(60), 70, aad)
	for why, u := range m.trees() {
		for _, i := range []int{0, 1, 2, 7, 8, -1, greatest, least} {
			m.noPath(why, api.ErrArg, u, i, l, m.atom(60), 70, aad)
			m.noPath(why, api.ErrArg, u, i, l, m.atom(60), 70, aad, 0, 1, 2, 3)
			m.misfits(why, api.ErrArg, u, i, made.Path)
			m.misfits(why, api.ErrArg, u, i, api.Path{}, 0)
		}
	}
}

// Each field of each node that is not Blank has to be a term.
func TestNoSuchTerm(t *testing.T) {
	m := start(t)
	good, l, aad := m.rich(), m.leaf(0), m.atom(99)
	made := m.makes(good, 0, l, m.atom(60), 70, aad)
	for x := range good {
		for name, field := range fields() {
			if good[x].Kind == api.Blank || good[x].Kind == api.Parent && (name == "Id" || name == "Sig") {
				continue
			}
			for _, v := range []int{-1, -2, m.a.Len(), m.a.Len() + 1, 1 << 31, 1 << 32, 1<<32 + 5, -1 << 32, greatest, least, least + 1} {
				u := copied(good)
				*field(&u[x]) = v
				mustBe(t, u)
				why := name + " of " + strconv.Itoa(x) + " is " + strconv.Itoa(v)
				m.noPath(why, api.ErrArg, u, 0, l, m.atom(60), 70, aad)
				m.noPath(why, api.ErrArg, u, 2, l, m.atom(60), 70, aad, 0, 1, 3, 4, 5, 6, 7)
				m.misfits(why, api.ErrArg, u, 0, made.Path)
			}
			// The last term is one.
			u := copied(good)
			*field(&u[x]) = m.a.Len() - 1
			mustBe(t, u)
			if e := path.Shape(m.a, u, 2, made.Path); e != api.ErrNone {
				t.Errorf("%s of %d: got %d", name, x, e)
			}
		}
	}
}

func fields() map[string]func(l *api.TNode) *int {
	return map[string]func(l *api.TNode) *int{
		"Id": func(l *api.TNode) *int { return &l.Id }, "Enc": func(l *api.TNode) *int { return &l.Enc },
		"Sig": func(l *api.TNode) *int { return &l.Sig }, "Hash": func(l *api.TNode) *int { return &l.Hash },
	}
}

// What a path is made of: each thing wrong by itself; it is told ahead of a leaf that is none.
func TestNoPathOf(t *testing.T) {
	m := start(t)
	u, l, secret, aad := m.rich(), m.leaf(0), m.atom(60), m.atom(99)
	for _, i := range []int{0, 7, 2, 8, -1, greatest, least} {
		for name, x := range map[string]api.TNode{
			"nothing":             {},
			"Blank":               {Kind: api.Blank, Id: l.Id, Enc: l.Enc, Sig: l.Sig, Hash: l.Hash},
			"a Parent":            {Kind: api.Parent, Id: l.Id, Enc: l.Enc, Sig: l.Sig, Hash: l.Hash},
			"kind 3":              {Kind: 3, Id: l.Id, Enc: l.Enc, Sig: l.Sig, Hash: l.Hash},
			"kind -1":             {Kind: -1, Id: l.Id, Enc: l.Enc, Sig: l.Sig, Hash: l.Hash},
			"an Unmerged":         {Kind: api.Leaf, Id: l.Id, Enc: l.Enc, Sig: l.Sig, Hash: l.Hash, Unmerged: []int{0}},
			"its own as Unmerged": {Kind: api.Leaf, Id: l.Id, Enc: l.Enc, Sig: l.Sig, Hash: l.Hash, Unmerged: []int{7}},
		} {
			m.noPath(name, api.ErrArg, u, i, x, secret, 70, aad)
		}
		for _, v := range []int{-1, -2, m.a.Len(), m.a.Len() + 1, 1 << 31, 1 << 32, 1<<32 + 5, -1 << 32, greatest, least, least + 1} {
			x := l
			x.Id = v
			m.noPath("Id", api.ErrArg, u, i, x, secret, 70, aad)
			x = l
			x.Sig = v
			m.noPath("Sig", api.ErrArg, u, i, x, secret, 70, aad)
			m.noPath("the secret", api.ErrArg, u, i, l, v, 70, aad)
			m.noPath("aad", api.ErrArg, u, i, l, secret, 70, v)
		}
		for _, v := range []int{-1, -2, -1 << 31, -1 << 32, least, least + 1} {
			m.noPath("draw", api.ErrArg, u, i, l, secret, v, aad)
			m.noPath("draw", api.ErrArg, u, i, l, secret, v, aad, 0, 1, 3, 4, 5, 6, 7)
		}
	}
	// Also where no one is to be sealed to, and nothing to be drawn.
	one := m.full(1)
	m.noPath("aad", api.ErrArg, one, 0, l, secret, 70, -1)
	m.noPath("draw", api.ErrArg, one, 0, l, secret, -1, aad)
	m.makes(one, 0, l, secret, greatest, aad)
	m.makes(one, 0, l, 0, 0, 0)
}

// Leaves that are none, and Blank ones.
func TestNoSuchLeaf(t *testing.T) {
	m := start(t)
	aad := m.atom(99)
	for _, n := range []int{1, 2, 4, 8, 256} {
		u, l := m.full(n), m.leaf(0)
		none := []int{-1, -2, -3, -n, -n - 1, -256, -512, -1 << 31, -1 << 32, -1 << 62, -1<<62 - 1, n, n + 1, 2*n - 1, 2 * n, 256, 257, 511, 512, 1 << 31, 1 << 32, 1<<32 + 1, 1 << 62, 1<<62 + 1, greatest - 1, greatest, least, least + 1, least + 2}
		if n == 8 {
			u, none = m.rich(), append(none, 2)
		}
		if n == 256 {
			u[20], none = api.TNode{}, append(none, 10)
		}
		for _, i := range none {
			m.noPath("no leaf", api.ErrNone, u, i, l, m.atom(60), 70, aad)
			m.noPath("no leaf", api.ErrNone, u, i, l, m.atom(60), 70, aad, i, 0)
			m.misfits("no leaf", api.ErrNone, u, i, api.Path{})
			m.misfits("no leaf", api.ErrNone, u, i, api.Path{Leaf: l}, i)
		}
	}
}

// Who is sealed to has to have a public key, and nobody else has to.
func TestNoPublicKey(t *testing.T) {
	m := start(t)
	secret, aad := m.atom(60), m.atom(99)
	sk := m.atom(0)
	for _, enc := range []int{sk, 0, m.text("pub"), m.list(m.pub(sk)), m.of(api.Hash, sk), m.of(api.Seal, m.pub(sk), sk, sk, sk), m.of(api.Mix, sk, sk)} {
		for _, x := range []int{2, 6, 9, 13, 12} {
			u := m.rich()
			u[x].Enc = enc
			m.noPath("node "+strconv.Itoa(x), api.ErrArg, u, 0, m.leaf(0), secret, 70, aad)
			if x%2 == 0 {
				m.makes(u, 0, u[0], secret, 70, aad, x/2)
			}
		}
		for _, x := range []int{0, 1, 3, 7, 8, 10, 14} {
			u := m.rich()
			u[x].Enc = enc
			m.makes(u, 0, u[0], secret, 70, aad)
		}
		// A leaf that is Blank, or none, is told first.
		u := m.rich()
		u[6].Enc = enc
		m.noPath("a Blank leaf", api.ErrNone, u, 2, m.leaf(0), secret, 70, aad)
		m.noPath("no leaf", api.ErrNone, u, 8, m.leaf(0), secret, 70, aad)
		// Whether a path goes with a tree does not hang on it, nor who takes it elsewhere.
		u = m.rich()
		made := m.makes(u, 0, u[0], secret, 70, aad)
		u[6].Enc = enc
		p := m.vouched(u, 0, copiedPath(made.Path))
		if e := path.Shape(m.a, u, 0, p); e != api.OK {
			t.Errorf("got %d", e)
		}
		sealed, _ := m.a.Node(p.Nodes[1].Seals[0])
		p.Nodes[1].Seals[0] = m.of(api.Seal, enc, aad, sealed.L[2], sealed.L[3])
		m.refuses("no public key", api.ErrOpen, u, 0, p, 3, m.held(u, 3), aad)
		m.refuses("no public key", api.ErrOpen, u, 0, p, 3, []api.Secret{{Node: 6, Sk: enc}}, aad)
		if took, e := path.Take(m.a, u, 0, p, 4, m.held(u, 4), aad); e != api.OK || took.Secret != made.Secret {
			t.Errorf("got %v, %d", took, e)
		}
	}
}

// A path that does not go with a tree: each thing wrong by itself.
func TestMisfits(t *testing.T) {
	m := start(t)
	u, aad := m.rich(), m.atom(99)
	good := m.makes(u, 0, u[0], m.atom(60), 70, aad).Path
	for name, change := range map[string]func(p *api.Path){
		"no nodes":         func(p *api.Path) { p.Nodes = nil },
		"a node less":      func(p *api.Path) { p.Nodes = p.Nodes[:2] },
		"a node less, low": func(p *api.Path) { p.Nodes = p.Nodes[1:] },
		"a node more":      func(p *api.Path) { p.Nodes = append(p.Nodes, api.PNode{Enc: p.Nodes[0].Enc}) },
		"one with a seal":  func(p *api.Path) { p.Nodes = append(p.Nodes, p.Nodes[2]) },
		"one ahead":        func(p *api.Path) { p.Nodes = append([]api.PNode{p.Nodes[0]}, p.Nodes...) },
		"many":             func(p *api.Path) { p.Nodes = append(p.Nodes, make([]api.PNode, 500)...) },
		"exchanged":        func(p *api.Path) { p.Nodes[0], p.Nodes[2] = p.Nodes[2], p.Nodes[0] },
		"Blank":            func(p *api.Path) { p.Leaf.Kind = api.Blank },
		"a Parent":         func(p *api.Path) { p.Leaf.Kind = api.Parent },
		"kind 3":           func(p *api.Path) { p.Leaf.Kind = 3 },
		"no Leaf":          func(p *api.Path) { p.Leaf = api.TNode{} },
		"an Unmerged":      func(p *api.Path) { p.Leaf.Unmerged = []int{0} },
		"another's Id":     func(p *api.Path) { p.Leaf.Hash = p.Leaf.Id },
		"no Hash":          func(p *api.Path) { p.Leaf.Hash = m.text("") },
		"the Hash ahead":   func(p *api.Path) { p.Leaf.Hash = u[0].Hash },
		"the term 0":       func(p *api.Path) { p.Leaf.Hash = 0 },
	} {
		p := copiedPath(good)
		change(&p)
		m.misfits(name, api.ErrPath, u, 0, p)
	}
	// A seal less, a seal more, at each node.
	for k := range good.Nodes {
		p := copiedPath(good)
		p.Nodes[k].Seals = p.Nodes[k].Seals[1:]
		m.misfits("a seal less", api.ErrPath, u, 0, p)
		p.Nodes[k].Seals = nil
		m.misfits("no seal", api.ErrPath, u, 0, p)
		p = copiedPath(good)
		p.Nodes[k].Seals = append(p.Nodes[k].Seals, p.Nodes[k].Seals[0])
		m.misfits("a seal more", api.ErrPath, u, 0, p)
	}
	// A term that is none, each by itself.
	for _, v := range []int{-1, -2, m.a.Len() + 50, 1 << 31, 1 << 32, 1<<32 + 5, -1 << 32, greatest, least, least + 1} {
		for name, field := range fields() {
			p := copiedPath(good)
			*field(&p.Leaf) = v
			m.misfits(name, api.ErrPath, u, 0, p)
		}
		for k := range good.Nodes {
			p := copiedPath(good)
			p.Nodes[k].Enc = v
			m.misfits("Enc", api.ErrPath, u, 0, p)
			for j := range good.Nodes[k].Seals {
				p := copiedPath(good)
				p.Nodes[k].Seals[j] = v
				m.misfits("a seal", api.ErrPath, u, 0, p)
			}
		}
	}
	// The Hash goes with all of the leaf's terms, and of the nodes': none of them may be another one.
	for name, change := range map[string]func(p *api.Path){"Enc": func(p *api.Path) { p.Nodes[0].Enc = aad }, "Enc of 1": func(p *api.Path) { p.Nodes[1].Enc = aad }, "Enc of 2": func(p *api.Path) { p.Nodes[2].Enc = aad }} {
		p := copiedPath(good)
		change(&p)
		m.misfits(name, api.ErrPath, u, 0, p)
	}
	// Nobody vouches for a leaf's own terms, nor for what is sealed; any terms will do.
	p := copiedPath(good)
	p.Leaf.Id, p.Leaf.Enc, p.Leaf.Sig, p.Leaf.Unmerged = 0, 0, 0, []int{}
	for k := range p.Nodes {
		for j := range p.Nodes[k].Seals {
			p.Nodes[k].Seals[j] = 0
		}
	}
	if e := path.Shape(m.a, u, 0, p); e != api.OK {
		t.Errorf("got %d", e)
	}
}

// A path of another tree, of another leaf, or of others who are fresh.
func TestMisfitsElsewhere(t *testing.T) {
	m := start(t)
	u, aad := m.rich(), m.atom(99)
	good := m.makes(u, 0, u[0], m.atom(60), 70, aad).Path
	for _, i := range []int{1, 3, 4, 6, 7} {
		m.misfits("another leaf", api.ErrPath, u, i, good)
	}
	m.misfits("a fresh one", api.ErrPath, u, 0, good, 6)
	m.misfits("all fresh", api.ErrPath, u, 0, good, 1, 3, 4, 5, 6, 7)
	if e := path.Shape(m.a, u, 0, good, 0, 2, 4, 5, 7, -1, 8); e != api.OK {
		t.Errorf("got %d", e)
	}
	// Of one leaf, and none: no nodes are as many as there are.
	one := m.full(1)
	alone := m.makes(one, 0, one[0], m.atom(60), 70, aad).Path
	m.misfits("of one leaf", api.ErrPath, u, 0, alone)
	m.misfits("to one leaf", api.ErrPath, one, 0, good)
	alone.Nodes = good.Nodes[:1]
	m.misfits("a node more", api.ErrPath, one, 0, alone)
	// Each change of what is beside the way makes for another Hash; a change above it does not.
	for x := range u {
		for name, field := range fields() {
			v := copied(u)
			if v[x].Kind == api.Blank || v[x].Kind == api.Parent && (name == "Id" || name == "Sig") {
				continue
			}
			*field(&v[x]) = aad
			want := api.ErrPath
			if slices.Contains([]int{0, 1, 3, 7}, x) {
				want = api.OK
			}
			if e := path.Shape(m.a, v, 0, good); e != want {
				t.Errorf("%s of %d: got %d", name, x, e)
			}
		}
	}
}

func TestNoArena(t *testing.T) {
	u := []api.TNode{{Kind: api.Leaf}}
	for _, a := range []*term.Arena{nil, term.New(), {}} {
		for _, v := range [][]api.TNode{nil, u, {u[0], {}, u[0]}, {{}, {Kind: api.Parent}, u[0]}} {
			if made, e := path.Make(a, v, 0, u[0], 0, 0, 0); e != api.ErrArg || !nothing(made) {
				t.Errorf("got %v, %d", made, e)
			}
			if e := path.Shape(a, v, 0, api.Path{Leaf: u[0]}); e != api.ErrArg {
				t.Errorf("got %d", e)
			}
			if took, e := path.Take(a, v, 0, api.Path{Leaf: u[0]}, 1, nil, 0); e != api.ErrArg || !nothing(took) {
				t.Errorf("got %v, %d", took, e)
			}
		}
	}
}
