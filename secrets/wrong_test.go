package secrets_test

import (
	"slices"
	"testing"

	"cassock/api"
	"cassock/secrets"
	"cassock/term"
)

// strangers are numbers that are no terms of an arena that has n, also such as what is made on the way would take.
func strangers(n int) []int {
	l := []int{-1, -2, -n, n + 40, n + 100, api.MaxTerms, 1 << 31, 1 << 32, 1<<32 + 1, -1 << 32, greatest, greatest - 1, least, least + 1}
	for k := range 30 {
		l = append(l, n+k)
	}
	return l
}

// noTrees are numbers of leaves that no tree has.
func noTrees() []int {
	l := []int{0, -1, -2, -4, -256, 512, 1024, 1 << 16, 1 << 31, 1 << 32, 1<<32 + 2, 1<<32 + 4, 1 << 62, -1 << 32, greatest, greatest - 1, least, least + 1, least + 2}
	for n := range 300 {
		if !slices.Contains(sizes(), n) {
			l = append(l, n)
		}
	}
	return l
}

func TestNewOfNoTree(t *testing.T) {
	m := start(t, 3)
	for _, leaves := range noTrees() {
		for _, secret := range []int{0, 2, 3, -1, greatest} {
			if k, e := secrets.New(m.a, leaves, secret); e != api.ErrArg || !nothing(api.GenKey{}, k) || m.a.Len() != 3 {
				t.Errorf("%d leaves: got %v, %d", leaves, k, e)
			}
		}
	}
}

func TestNewOfNoTerm(t *testing.T) {
	for _, n := range []int{0, 1, 3} {
		m := start(t, n)
		for _, secret := range strangers(n) {
			for _, leaves := range sizes() {
				if k, e := secrets.New(m.a, leaves, secret); e != api.ErrArg || !nothing(api.GenKey{}, k) || m.a.Len() != n {
					t.Errorf("%d leaves, secret %d of %d: got %v, %d", leaves, secret, n, k, e)
				}
			}
		}
	}
}

// refusesKey holds what Key tells of what does not do, with nothing beside it, and that the keyring goes on as it was.
func (m model) refusesKey(why string, want api.Errno, k api.Keyring, r request) {
	m.Helper()
	was := twin(k)
	for range 2 {
		if x, l, e := secrets.Key(m.a, k, r.leaf, r.kind, r.gen); e != want || !nothing(x, l) {
			m.Errorf("%s, %v: got %v, %v, %d, not %d", why, r, x, l, e, want)
		}
	}
	if !same(whole(k), whole(was)) {
		m.Errorf("%s, %v: %v is %v now", why, r, was, k)
	}
}

// refusesNext is the same of Next.
func (m model) refusesNext(why string, want api.Errno, k api.Keyring, leaf, kind int) {
	m.Helper()
	was := twin(k)
	for range 2 {
		if x, l, e := secrets.Next(m.a, k, leaf, kind); e != want || !nothing(x, l) {
			m.Errorf("%s, leaf %d, kind %d: got %v, %v, %d, not %d", why, leaf, kind, x, l, e, want)
		}
	}
	if !same(whole(k), whole(was)) {
		m.Errorf("%s, leaf %d, kind %d: %v is %v now", why, leaf, kind, was, k)
	}
}

// noKinds are none of both.
func noKinds() []int {
	return []int{-1, 2, 3, 256, 257, 1 << 32, 1<<32 + 1, -1 << 32, greatest, least, least + 1}
}

func TestNoLeaf(t *testing.T) {
	for _, leaves := range sizes() {
		m := start(t, 1)
		h := m.holder(leaves, 0)
		for range 2 {
			// The double of some of these is a leaf's node, as an int has it.
			for _, leaf := range []int{-1, -2, -leaves, leaves, leaves + 1, 2 * leaves, 255 + leaves, 510, 511, 512, 1 << 31, 1 << 32, 1 << 62, 1<<62 + 1, 1<<63 - 1, -1 << 62, -1<<63 + 1, -1 << 63, -1 << 32, 1<<32 + 1} {
				for _, gen := range []int{0, 1, 9, -1, greatest} {
					m.refusesKey("no leaf", api.ErrArg, h.k, request{leaf, 0, gen})
					m.refusesKey("no leaf", api.ErrArg, h.k, request{leaf, 1, gen})
				}
				m.refusesNext("no leaf", api.ErrArg, h.k, leaf, 0)
				m.refusesNext("no leaf", api.ErrArg, h.k, leaf, 1)
			}
			h.tells(0, 0, h.lineAt(0, 0))
			h.tells(leaves-1, 1, h.lineAt(leaves-1, 1)+3)
		}
	}
}

func TestNoKind(t *testing.T) {
	m := start(t, 1)
	h := m.holder(4, 0)
	for range 2 {
		for _, kind := range noKinds() {
			for leaf := range 5 {
				for _, gen := range []int{0, 3, 9, -1} {
					m.refusesKey("no kind", api.ErrArg, h.k, request{leaf, kind, gen})
				}
				m.refusesNext("no kind", api.ErrArg, h.k, leaf, kind)
			}
		}
		h.tells(0, 0, h.lineAt(0, 0)+4)
		h.tells(3, 1, h.lineAt(3, 1))
	}
}

func TestNumberBelowZero(t *testing.T) {
	m := start(t, 1)
	h := m.holder(4, 0)
	for range 2 {
		for _, gen := range []int{-1, -2, -8, -9, -1 << 31, -1 << 32, -1<<32 + 1, least + 1, least} {
			for leaf := range 4 {
				for kind := range 2 {
					m.refusesKey("below 0", api.ErrArg, h.k, request{leaf, kind, gen})
				}
			}
		}
		h.tells(1, 0, h.lineAt(1, 0)+4)
		h.tells(2, 1, h.lineAt(2, 1)+3)
	}
}

// A keyring that was made by hand may be of as many leaves as no tree has: then there is no leaf.
func TestKeyringOfNoTree(t *testing.T) {
	m := start(t, 1)
	for _, leaves := range noTrees() {
		k := api.Keyring{Leaves: leaves}
		for x := range 12 {
			k.Nodes = append(k.Nodes, api.Secret{Node: x})
		}
		for leaf := range 5 {
			k.Chains = append(k.Chains, api.Chain{Leaf: leaf, Gen: 1, Kept: []api.GenKey{{}}})
		}
		for _, leaf := range []int{0, 1, 4, 5, -1, leaves, leaves - 1} {
			m.refusesKey("no tree", api.ErrArg, k, request{leaf, 0, 0})
			m.refusesKey("no tree", api.ErrArg, k, request{leaf, 1, 2})
			m.refusesNext("no tree", api.ErrArg, k, leaf, 0)
		}
	}
	m.refusesKey("none", api.ErrArg, api.Keyring{}, request{})
	m.refusesNext("none", api.ErrArg, api.Keyring{}, 0, 0)
}

// A keyring without the node that is asked for, whatever other ones it has; the number does not matter.
func TestNoNode(t *testing.T) {
	m := start(t, 2)
	for _, k := range []api.Keyring{
		{Leaves: 8},
		{Leaves: 8, Nodes: []api.Secret{}},
		// Leaf 2 is the node 4, above it are 5, 3 and 7.
		{Leaves: 8, Nodes: []api.Secret{{Node: 0}, {Node: 1}, {Node: 2}, {Node: 6}, {Node: 8}, {Node: 9}, {Node: 10}, {Node: 11}, {Node: 12}, {Node: 13}, {Node: 14}}},
		{Leaves: 8, Nodes: []api.Secret{{Node: -1}, {Node: 15}, {Node: 31}, {Node: greatest}, {Node: least}}},
		{Leaves: 8, Chains: []api.Chain{{Leaf: 1}, {Leaf: 1, Kind: 1}, {Leaf: 3}, {Leaf: 2, Kind: 2}, {Leaf: 2, Kind: -1}}},
	} {
		for _, gen := range []int{0, 1, 8, 9, greatest} {
			m.refusesKey("no node", api.ErrNone, k, request{2, 0, gen})
			m.refusesKey("no node", api.ErrNone, k, request{2, 1, gen})
		}
		m.refusesNext("no node", api.ErrNone, k, 2, 0)
		m.refusesNext("no node", api.ErrNone, k, 2, 1)
	}
	m.refusesKey("no node", api.ErrNone, api.Keyring{Leaves: 1}, request{})
	m.refusesKey("no node", api.ErrNone, api.Keyring{Leaves: 1, Nodes: []api.Secret{{Node: 1}}}, request{})
	m.refusesKey("no node", api.ErrNone, api.Keyring{Leaves: 256, Nodes: []api.Secret{{Node: 127}}}, request{leaf: 255})
	if m.a.Len() != 2 {
		t.Errorf("%d terms were made", m.a.Len()-2)
	}
}

// From each node that is the leaf or above it the leaf's secret is found; the others stay.
func TestNodeByHand(t *testing.T) {
	for at, way := range map[int][]int{4: nil, 5: {6}, 3: {6, 1}, 7: {6, 1, 11}} {
		m := start(t, 40)
		k := api.Keyring{Leaves: 8, Nodes: []api.Secret{{Node: at, Sk: 39}}}
		for x := range 15 {
			if r := m.ring(8, 0); !r.at(x).over(2) && !slices.Contains(way, x) {
				k.Nodes = append(k.Nodes, api.Secret{Node: x, Sk: 10 + x})
			}
		}
		slices.SortFunc(k.Nodes, func(x, y api.Secret) int { return x.Node - y.Node })
		was := twin(k)
		x, l, e := secrets.Key(m.a, k, 2, 1, 0)
		secret := 39
		for i := len(way) - 1; i >= 0; i-- {
			mine, other := "left", "right"
			if way[i] < 4 {
				mine, other = other, mine
			}
			was.Nodes = append(was.Nodes, api.Secret{Node: way[i], Sk: m.expanded(secret, "tree", other)})
			secret = m.expanded(secret, "tree", mine)
		}
		was.Nodes = slices.DeleteFunc(was.Nodes, func(s api.Secret) bool { return s.Node == at })
		slices.SortFunc(was.Nodes, func(x, y api.Secret) int { return x.Node - y.Node })
		if want := m.expanded(m.expanded(secret, "application", ""), "key", "0"); x.Key != want || e != api.OK || !slices.Equal(l.Nodes, was.Nodes) {
			t.Errorf("from %d: got %v, %v, %d, not %d, %v", at, x, l.Nodes, e, want, was.Nodes)
		}
	}
}

// A node's secret that is no term is refused, if it is asked for: wherever it is, ahead of what a number is; one beside the way stays.
func TestNodeOfNoTerm(t *testing.T) {
	for i := range strangers(0) {
		for _, at := range []int{4, 5, 3, 7} {
			for _, gen := range []int{0, 1, 8, 9, greatest} {
				for kind := range 2 {
					m := start(t, 3)
					sk := strangers(3)[i]
					k := api.Keyring{Leaves: 8, Nodes: []api.Secret{{Node: at, Sk: sk}}}
					m.refusesKey("node of no term", api.ErrArg, k, request{2, kind, gen})
					m.refusesNext("node of no term", api.ErrArg, k, 2, kind)
					// Also where all that would be made is there.
					m.holder(8, 0).tells(2, kind, 3)
					k.Nodes[0].Sk = strangers(m.a.Len())[i]
					m.refusesKey("node of no term", api.ErrArg, k, request{2, kind, gen})
				}
			}
		}
		m := start(t, 3)
		sk := strangers(3)[i]
		k := api.Keyring{Leaves: 8, Nodes: []api.Secret{{Node: 3, Sk: 0}, {Node: 11, Sk: sk}}, Chains: []api.Chain{{Leaf: 5, Secret: sk, Kept: []api.GenKey{{Key: sk, Nonce: sk}}}}}
		_, l, e := secrets.Key(m.a, k, 2, 1, 3)
		if e != api.OK || !slices.Contains(l.Nodes, k.Nodes[1]) || len(l.Chains) != 3 || l.Chains[2].Secret != sk || !slices.Equal(l.Chains[2].Kept, k.Chains[0].Kept) {
			t.Errorf("%d beside the way: got %v, %d", sk, l, e)
		}
	}
}

// What a chain goes on from that is no term is refused, if it is asked for; what is kept is told all the same, and what is too far is ErrLong.
func TestChainOfNoTerm(t *testing.T) {
	for i := range strangers(0) {
		for kind := range 2 {
			m := start(t, 3)
			sk := strangers(3)[i]
			kept := []api.GenKey{{Gen: 1, Key: sk, Nonce: 2}, {Gen: 3, Key: 1, Nonce: sk}}
			k := api.Keyring{Leaves: 8, Chains: []api.Chain{{Leaf: 2, Kind: kind, Gen: 5, Secret: sk, Kept: kept}}}
			for _, gen := range []int{5, 6, 13} {
				m.refusesKey("chain of no term", api.ErrArg, k, request{2, kind, gen})
			}
			m.refusesNext("chain of no term", api.ErrArg, k, 2, kind)
			for _, gen := range []int{14, 15, 100, greatest} {
				m.refusesKey("too far", api.ErrLong, k, request{2, kind, gen})
			}
			for _, gen := range []int{0, 2, 4} {
				m.refusesKey("not kept", api.ErrNone, k, request{2, kind, gen})
			}
			for j, want := range kept {
				x, l, e := secrets.Key(m.a, k, 2, kind, want.Gen)
				if x != want || e != api.OK || len(l.Chains) != 1 || l.Chains[0].Secret != sk || l.Chains[0].Gen != 5 || !slices.Equal(l.Chains[0].Kept, kept[1-j:2-j]) {
					t.Errorf("%d kept: got %v, %v, %d", want.Gen, x, l, e)
				}
			}
			if m.a.Len() != 3 {
				t.Errorf("%d terms were made", m.a.Len()-3)
			}
			// A chain that goes on does not ask what others go on from, nor what it keeps.
			k.Chains = append(k.Chains, api.Chain{Leaf: 6, Kind: kind, Gen: 4, Secret: 1, Kept: kept})
			x, l, e := secrets.Key(m.a, k, 6, kind, 5)
			if x.Gen != 5 || e != api.OK || l.Chains[0].Secret != sk || len(l.Chains[1].Kept) != 3 || !slices.Equal(l.Chains[1].Kept[:2], kept) {
				t.Errorf("another one: got %v, %v, %d", x, l, e)
			}
		}
	}
}

// gens are keys of these numbers, which are made by hand.
func gens(l ...int) []api.GenKey {
	var kept []api.GenKey
	for _, g := range l {
		kept = append(kept, api.GenKey{Gen: g, Key: 1 + g%2, Nonce: 3 - g%2})
	}
	return kept
}

// More kept keys than a keyring may have, and in another order: one of them is told, the others stay; where the chain goes on, the last eight stay.
func TestKeptByHand(t *testing.T) {
	m := start(t, 4)
	kept := gens(3, 9, 4, 30, 12, 11, 7, 0, 22, 5, 1, 8)
	for kind := range 2 {
		k := api.Keyring{Leaves: 2, Chains: []api.Chain{{Leaf: 1, Kind: kind, Gen: 40, Secret: 3, Kept: kept}}}
		for i, want := range kept {
			x, l, e := secrets.Key(m.a, k, 1, kind, want.Gen)
			rest := slices.Delete(slices.Clone(kept), i, i+1)
			if x != want || e != api.OK || !slices.Equal(l.Chains[0].Kept, rest) || l.Chains[0].Gen != 40 || l.Chains[0].Secret != 3 {
				t.Errorf("%d: got %v, %v, %d", want.Gen, x, l, e)
			}
		}
		for above := range 9 {
			x, l, e := secrets.Key(m.a, k, 1, kind, 40+above)
			if x.Gen != 40+above || e != api.OK || l.Chains[0].Gen != 41+above || len(l.Chains[0].Kept) != 8 || !slices.Equal(l.Chains[0].Kept[:8-above], kept[4+above:]) {
				t.Errorf("%d above: got %v, %v, %d", above, x, l, e)
			}
			for i, x := range l.Chains[0].Kept[8-above:] {
				if x.Gen != 40+i {
					t.Errorf("%d above: got %v", above, l.Chains[0].Kept)
				}
			}
		}
		m.refusesKey("too far", api.ErrLong, k, request{1, kind, 49})
		m.refusesKey("not kept", api.ErrNone, k, request{1, kind, 2})
	}
}

// Numbers of chains as great and as small as an int can be: each call ends, and what is too far is so.
func TestGreatNumbers(t *testing.T) {
	m := start(t, 4)
	for kind := range 2 {
		chain := func(gen int) api.Keyring {
			return api.Keyring{Leaves: 4, Chains: []api.Chain{{Leaf: 1, Kind: kind, Gen: gen, Secret: 3, Kept: gens(7)}}}
		}
		for _, from := range []int{1 << 31, 1 << 32, 1 << 62, greatest - 9, greatest - 8, greatest - 3, greatest - 1, greatest} {
			for above := 0; above <= 8 && from <= greatest-above; above++ {
				x, l, e := secrets.Key(m.a, chain(from), 1, kind, from+above)
				if x.Gen != from+above || e != api.OK || len(l.Chains) != 1 || len(l.Chains[0].Kept) != min(8, 1+above) {
					t.Errorf("%d above %d: got %v, %v, %d", above, from, x, l, e)
				}
			}
			m.refusesKey("not kept", api.ErrNone, chain(from), request{1, kind, from - 1})
			m.refusesKey("not kept", api.ErrNone, chain(from), request{1, kind, 0})
			if x, l, e := secrets.Key(m.a, chain(from), 1, kind, 7); x != gens(7)[0] || e != api.OK || len(l.Chains[0].Kept) != 0 {
				t.Errorf("from %d: got %v, %v, %d", from, x, l, e)
			}
			if from < greatest-9 {
				m.refusesKey("too far", api.ErrLong, chain(from), request{1, kind, from + 9})
				m.refusesKey("too far", api.ErrLong, chain(from), request{1, kind, greatest})
			}
		}
		for _, from := range []int{-9, -100, -1 << 31, -1 << 32, least, least + 1, least + 8} {
			for _, gen := range []int{0, 1, 7, 8, 1 << 31, 1 << 32, 1 << 62, greatest - 8, greatest - 1, greatest} {
				m.refusesKey("too far", api.ErrLong, chain(from), request{1, kind, gen})
			}
			m.refusesNext("below 0", api.ErrArg, chain(from), 1, kind)
		}
		m.refusesNext("below 0", api.ErrArg, chain(-1), 1, kind)
	}
}

// An arena that is not there has no terms; what is kept is told without one.
func TestNoArena(t *testing.T) {
	for _, m := range []model{{t, nil}, {t, term.New()}, {t, &term.Arena{}}} {
		for _, secret := range []int{0, 1, -1} {
			if k, e := secrets.New(m.a, 4, secret); e != api.ErrArg || !nothing(api.GenKey{}, k) {
				t.Errorf("got %v, %d", k, e)
			}
		}
		k := api.Keyring{Leaves: 4, Nodes: []api.Secret{{Node: 3}}, Chains: []api.Chain{{Leaf: 0, Gen: 8, Kept: gens(7)}}}
		m.refusesKey("no terms", api.ErrArg, k, request{1, 0, 0})
		m.refusesKey("no terms", api.ErrArg, k, request{0, 0, 8})
		m.refusesNext("no terms", api.ErrArg, k, 0, 0)
		m.refusesKey("no terms", api.ErrLong, k, request{0, 0, 17})
		m.refusesKey("no terms", api.ErrNone, k, request{0, 0, 6})
		if x, l, e := secrets.Key(m.a, k, 0, 0, 7); x != gens(7)[0] || e != api.OK || len(l.Chains[0].Kept) != 0 {
			t.Errorf("got %v, %v, %d", x, l, e)
		}
	}
}

// Behind an error a keyring goes on as it was, as if that had not been asked.
func TestGoesOn(t *testing.T) {
	for n := range 8 {
		m := start(t, 1)
		d := draws(n)
		h, g := m.holder(sizes()[n%4], 0), m.holder(sizes()[n%4], 0)
		for range 60 {
			r := request{d.below(h.leaves), d.below(2), 0}
			r.gen = d.below(h.lineAt(r.leaf, r.kind) + 3)
			for _, wrong := range []request{{r.leaf, r.kind, h.lineAt(r.leaf, r.kind) + 9}, {r.leaf, r.kind, greatest}, {-1, r.kind, 0}, {h.leaves, r.kind, 0}, {r.leaf, 2, 0}, {r.leaf, r.kind, -1}} {
				if x, l, e := secrets.Key(m.a, h.k, wrong.leaf, wrong.kind, wrong.gen); e == api.OK || !nothing(x, l) {
					t.Fatalf("%v: got %v, %v, %d", wrong, x, l, e)
				}
			}
			x, e := h.ask(r.leaf, r.kind, r.gen)
			if y, f := g.ask(r.leaf, r.kind, r.gen); x != y || e != f || !same(h.k, g.k) {
				t.Fatalf("%v: got %v, %d, not %v, %d", r, x, e, y, f)
			}
		}
	}
}
