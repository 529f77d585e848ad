package secrets_test

import (
	"slices"
	"testing"

	"cassock/api"
	"cassock/secrets"
	"cassock/term"
)

// The chapter's example.
func TestExample(t *testing.T) {
	m := start(t, 1)
	k, e := secrets.New(m.a, 2, 0)
	if e != api.OK {
		t.Fatalf("got %d", e)
	}
	x, k, e := secrets.Key(m.a, k, 0, api.Handshake, 1)
	if x.Gen != 1 || e != api.OK || len(k.Chains) != 2 || len(k.Chains[0].Kept) != 1 {
		t.Fatalf("got %v, %v, %d", x, k, e)
	}
	kept := k.Chains[0].Kept[0]
	if x, none, e := secrets.Key(m.a, k, 0, api.Handshake, 1); e != api.ErrNone || !nothing(x, none) {
		t.Errorf("1 again: got %v, %v, %d", x, none, e)
	}
	x, k, e = secrets.Key(m.a, k, 0, api.Handshake, 0)
	if x != kept || x.Gen != 0 || e != api.OK || len(k.Chains[0].Kept) != 0 {
		t.Errorf("0: got %v, %v, %d", x, k, e)
	}
	if x, none, e := secrets.Key(m.a, k, 0, api.Handshake, 0); e != api.ErrNone || !nothing(x, none) {
		t.Errorf("0 again: got %v, %v, %d", x, none, e)
	}
}

// New has the root's secret, whatever term it is, and no chains; it makes nothing.
func TestNew(t *testing.T) {
	roots := []int{0, 1, 3, 7, 15, 31, 63, 127, 255}
	for i, leaves := range sizes() {
		m := start(t, 4)
		m.text("")
		m.make(api.Node{Op: api.List})
		m.make(api.Node{Op: api.Pub, L: []int{0}})
		for secret := range m.a.Len() {
			k, e := secrets.New(m.a, leaves, secret)
			if e != api.OK || !same(k, api.Keyring{Leaves: leaves, Nodes: []api.Secret{{Node: roots[i], Sk: secret}}}) || m.a.Len() != 7 {
				t.Errorf("%d leaves, secret %d: got %v, %d, of %d terms", leaves, secret, k, e, m.a.Len())
			}
		}
	}
}

// The whole of a tree of four leaves, written by hand: what its nodes' secrets are.
func TestNodesTexts(t *testing.T) {
	left, right := `key(#7,"tree","left")`, `key(#7,"tree","right")`
	nodes := map[int]string{
		0: `key(` + left + `,"tree","left")`,
		1: left,
		2: `key(` + left + `,"tree","right")`,
		4: `key(` + right + `,"tree","left")`,
		5: right,
		6: `key(` + right + `,"tree","right")`,
	}
	for _, c := range []struct {
		asked []int
		want  []int
	}{
		{[]int{0}, []int{2, 5}},
		{[]int{1}, []int{0, 5}},
		{[]int{2}, []int{1, 6}},
		{[]int{3}, []int{1, 4}},
		{[]int{0, 1}, []int{5}},
		{[]int{1, 0}, []int{5}},
		{[]int{3, 2}, []int{1}},
		{[]int{0, 2}, []int{2, 6}},
		{[]int{3, 0}, []int{2, 4}},
		{[]int{1, 2}, []int{0, 6}},
		{[]int{0, 1, 3}, []int{4}},
		{[]int{2, 3, 1}, []int{0}},
		{[]int{3, 0, 2, 1}, nil},
	} {
		m := start(t, 8)
		k, e := secrets.New(m.a, 4, 7)
		for _, leaf := range c.asked {
			if e != api.OK {
				t.Fatalf("%v: got %d", c.asked, e)
			}
			_, k, e = secrets.Next(m.a, k, leaf, leaf%2)
		}
		if e != api.OK || len(k.Nodes) != len(c.want) {
			t.Fatalf("%v: got %v, %d", c.asked, k.Nodes, e)
		}
		for i, x := range c.want {
			if k.Nodes[i].Node != x {
				t.Errorf("%v: got %v, not %v", c.asked, k.Nodes, c.want)
			}
			m.shown("node's secret", nodes[x], k.Nodes[i].Sk)
		}
	}
}

// Both chains of each leaf of a tree of four, written by hand: what they begin with, keys, nonces, and what they go on from.
func TestChainsTexts(t *testing.T) {
	for leaf, above := range [][2]string{{"left", "left"}, {"left", "right"}, {"right", "left"}, {"right", "right"}} {
		for kind, label := range []string{"handshake", "application"} {
			m := start(t, 8)
			k, e := secrets.New(m.a, 4, 7)
			if e != api.OK {
				t.Fatalf("got %d", e)
			}
			secret := `key(key(#7,"tree","` + above[0] + `"),"tree","` + above[1] + `")`
			chain := `key(` + secret + `,"` + label + `","")`
			for _, g := range []string{"0", "1", "2"} {
				var x api.GenKey
				x, k, e = secrets.Next(m.a, k, leaf, kind)
				if e != api.OK || len(k.Chains) != 2 || k.Chains[0].Leaf != leaf || k.Chains[1].Leaf != leaf || k.Chains[0].Kind != 0 || k.Chains[1].Kind != 1 {
					t.Fatalf("leaf %d, kind %d, %s: got %v, %d", leaf, kind, g, k, e)
				}
				m.shown("key", `key(`+chain+`,"key","`+g+`")`, x.Key)
				m.shown("nonce", `key(`+chain+`,"nonce","`+g+`")`, x.Nonce)
				chain = `key(` + chain + `,"secret","` + g + `")`
				m.shown("what it goes on from", chain, k.Chains[kind].Secret)
			}
			// The other one has begun, too.
			other := []string{"application", "handshake"}[kind]
			m.shown("the other one's beginning", `key(`+secret+`,"`+other+`","")`, k.Chains[1-kind].Secret)
			if k.Chains[kind].Gen != 3 || k.Chains[1-kind].Gen != 0 || len(k.Chains[0].Kept)+len(k.Chains[1].Kept) != 0 {
				t.Errorf("leaf %d, kind %d: got %v", leaf, kind, k.Chains)
			}
		}
	}
}

// In a tree of one leaf the root is the leaf: its secret is what both chains begin with.
func TestOneLeaf(t *testing.T) {
	m := start(t, 3)
	k, e := secrets.New(m.a, 1, 2)
	if e != api.OK || !same(k, api.Keyring{Leaves: 1, Nodes: []api.Secret{{Node: 0, Sk: 2}}}) {
		t.Fatalf("got %v, %d", k, e)
	}
	x, k, e := secrets.Key(m.a, k, 0, api.Application, 1)
	if x.Gen != 1 || e != api.OK || k.Leaves != 1 || len(k.Nodes) != 0 || len(k.Chains) != 2 {
		t.Fatalf("got %v, %v, %d", x, k, e)
	}
	begin := `key(#2,"application","")`
	m.shown("key", `key(key(`+begin+`,"secret","0"),"key","1")`, x.Key)
	m.shown("nonce", `key(key(`+begin+`,"secret","0"),"nonce","1")`, x.Nonce)
	m.shown("what it goes on from", `key(key(`+begin+`,"secret","0"),"secret","1")`, k.Chains[1].Secret)
	m.shown("the other one's beginning", `key(#2,"handshake","")`, k.Chains[0].Secret)
	c := k.Chains[1]
	if c.Leaf != 0 || c.Kind != api.Application || c.Gen != 2 || len(c.Kept) != 1 || c.Kept[0].Gen != 0 {
		t.Fatalf("got %v", c)
	}
	m.shown("the kept key", `key(`+begin+`,"key","0")`, c.Kept[0].Key)
	m.shown("the kept nonce", `key(`+begin+`,"nonce","0")`, c.Kept[0].Nonce)
}

// Numbers of more than one digit.
func TestNumbersTexts(t *testing.T) {
	m := start(t, 1)
	h := m.holder(1, 0)
	chain := `key(#0,"handshake","")`
	for g, digits := range []string{"0", "1", "2", "3", "4", "5", "6", "7", "8", "9", "10", "11", "12"} {
		x := h.tells(0, api.Handshake, g)
		m.shown("key", `key(`+chain+`,"key","`+digits+`")`, x.Key)
		chain = `key(` + chain + `,"secret","` + digits + `")`
	}
	for g := 8; g < 1100; g += 9 {
		h.tells(0, api.Application, g)
	}
}

// Each leaf of each tree, each kind, several numbers: what is told, and the keyring that comes of it.
func TestEachLeaf(t *testing.T) {
	for _, leaves := range sizes() {
		m := start(t, 5)
		for leaf := range leaves {
			for kind := range 2 {
				for _, gen := range []int{0, 1, 3, 8} {
					m.holder(leaves, leaf%5).tells(leaf, kind, gen)
				}
				m.holder(leaves, 0).refuses(api.ErrLong, leaf, kind, 9)
			}
		}
	}
}

// All leaves of a tree, one behind the other: at last there are chains alone. Whatever came ahead, each leaf's keys are those of a new keyring.
func TestAllLeaves(t *testing.T) {
	for _, leaves := range sizes()[:6] {
		m := start(t, 3)
		d := draws(leaves)
		order := make([]int, leaves)
		for i := range order {
			order[i] = i
		}
		for n := range 4 {
			h := m.holder(leaves, 1)
			for _, leaf := range order {
				x := h.tells(leaf, (leaf+n)%2, leaf%3)
				if y := m.holder(leaves, 1).tells(leaf, (leaf+n)%2, leaf%3); x != y {
					t.Fatalf("leaf %d of %d: got %v, not %v", leaf, leaves, x, y)
				}
			}
			if len(h.k.Nodes) != 0 || len(h.k.Chains) != 2*leaves {
				t.Errorf("%d leaves: got %v", leaves, h.k)
			}
			slices.Reverse(order)
			if n > 0 {
				for i := range order {
					j := d.below(i + 1)
					order[i], order[j] = order[j], order[i]
				}
			}
		}
	}
}

// A great tree, all of whose leaves talk.
func TestAllLeavesOfTheGreatest(t *testing.T) {
	m := start(t, 1)
	r := m.ring(256, 0)
	k, e := secrets.New(m.a, 256, 0)
	for i := range 256 {
		leaf := i * 77 % 256
		var x api.GenKey
		x, k, e = secrets.Key(m.a, k, leaf, i%2, i%4)
		if want, _ := r.ask(leaf, i%2, i%4); x != want || e != api.OK {
			t.Fatalf("leaf %d: got %v, %d, not %v", leaf, x, e, want)
		}
	}
	if want := r.keyring(); !same(k, want) || len(k.Nodes) != 0 || len(k.Chains) != 512 || e != api.OK {
		t.Errorf("got %v, not %v", k, want)
	}
}

// A leaf whose secret was made on the way to its sibling, or to one farther off.
func TestBesideTheWay(t *testing.T) {
	for _, leaves := range []int{2, 4, 8, 256} {
		m := start(t, 2)
		for _, first := range []int{0, 1, leaves / 2, leaves - 2, leaves - 1} {
			for _, leaf := range []int{first ^ 1, first ^ (leaves - 1), first ^ (leaves / 2), first ^ 1} {
				h := m.holder(leaves, 1)
				h.tells(first, api.Application, 2)
				for kind := range 2 {
					if leaf == first {
						continue
					}
					if x, y := h.tells(leaf, kind, 1), m.holder(leaves, 1).tells(leaf, kind, 1); x != y {
						t.Errorf("leaf %d of %d behind %d: got %v, not %v", leaf, leaves, first, x, y)
					}
				}
			}
		}
	}
}

// From wherever a chain is: the number that it is at, up to 8 above it, and no farther.
func TestAhead(t *testing.T) {
	for _, from := range []int{0, 1, 2, 7, 8, 9, 30} {
		for kind := range 2 {
			for above := range 20 {
				m := start(t, 1)
				h := m.holder(4, 0)
				for range from {
					h.tells(1, kind, h.lineAt(1, kind))
				}
				if above > 8 {
					h.refuses(api.ErrLong, 1, kind, from+above)
					continue
				}
				if x := h.tells(1, kind, from+above); x.Gen != from+above || len(h.k.Chains[kind].Kept) != above || h.k.Chains[kind].Gen != from+above+1 {
					t.Errorf("%d above %d: got %v, %v", above, from, x, h.k)
				}
			}
			m := start(t, 1)
			h := m.holder(4, 0)
			for _, gen := range []int{9, 10, 17, 100, 1 << 31, 1 << 32, 1<<32 + 1, greatest - 8, greatest - 1, greatest} {
				h.refuses(api.ErrLong, 1, kind, gen)
			}
			// Where there is no chain, none is begun for it, either.
			if m.a.Len() != 1 {
				t.Errorf("%d terms were made", m.a.Len()-1)
			}
		}
	}
}

// lineAt is the number that a chain is at, 0 if there is none.
func (r *ring) lineAt(leaf, kind int) int {
	if l := r.lines[[2]int{leaf, kind}]; l != nil {
		return l.gen
	}
	return 0
}

// keptOf are the numbers of the keys that a keyring's chain keeps.
func keptOf(k api.Keyring, leaf, kind int) []int {
	var l []int
	for _, c := range k.Chains {
		if c.Leaf == leaf && c.Kind == kind {
			for _, x := range c.Kept {
				l = append(l, x.Gen)
			}
		}
	}
	return l
}

// Of those that were passed over the last eight are kept, in the order in which they were passed over; the new ones come behind those that are there.
func TestLastEight(t *testing.T) {
	for _, c := range []struct {
		asked []int
		want  []int
	}{
		{[]int{8}, []int{0, 1, 2, 3, 4, 5, 6, 7}},
		{[]int{8, 9}, []int{0, 1, 2, 3, 4, 5, 6, 7}},
		{[]int{8, 10}, []int{1, 2, 3, 4, 5, 6, 7, 9}},
		{[]int{8, 13}, []int{4, 5, 6, 7, 9, 10, 11, 12}},
		{[]int{8, 16}, []int{7, 9, 10, 11, 12, 13, 14, 15}},
		{[]int{8, 17}, []int{9, 10, 11, 12, 13, 14, 15, 16}},
		{[]int{0, 8, 17}, []int{9, 10, 11, 12, 13, 14, 15, 16}},
		{[]int{4, 6, 8, 10, 12, 14}, []int{1, 2, 3, 5, 7, 9, 11, 13}},
		{[]int{5, 2, 9}, []int{0, 1, 3, 4, 6, 7, 8}},
		{[]int{5, 2, 10}, []int{0, 1, 3, 4, 6, 7, 8, 9}},
		{[]int{5, 2, 11}, []int{1, 3, 4, 6, 7, 8, 9, 10}},
		{[]int{8, 0, 7, 3, 11}, []int{1, 2, 4, 5, 6, 9, 10}},
		{[]int{8, 0, 7, 3, 14}, []int{4, 5, 6, 9, 10, 11, 12, 13}},
	} {
		for kind := range 2 {
			m := start(t, 1)
			h := m.holder(2, 0)
			for _, gen := range c.asked {
				h.tells(1, kind, gen)
			}
			if !slices.Equal(keptOf(h.k, 1, kind), c.want) || len(keptOf(h.k, 1, 1-kind)) != 0 {
				t.Errorf("%v: got %v, not %v", c.asked, h.k.Chains, c.want)
			}
		}
	}
	// What is pushed out is told no more; what is kept is.
	m := start(t, 1)
	h := m.holder(1, 0)
	h.tells(0, 0, 5)
	h.tells(0, 0, 2)
	h.tells(0, 0, 11)
	h.refuses(api.ErrNone, 0, 0, 0)
	for _, gen := range []int{10, 1, 6, 3, 9, 4, 8, 7} {
		h.tells(0, 0, gen)
	}
	if len(h.k.Chains[0].Kept) != 0 || h.k.Chains[0].Gen != 12 {
		t.Errorf("got %v", h.k)
	}
}

// Below the chain's number: one that was kept, that was told, that was pushed out, each kind by itself.
func TestBelow(t *testing.T) {
	for kind := range 2 {
		m := start(t, 1)
		h := m.holder(8, 0)
		h.tells(5, kind, 4)
		first := h.k
		x := h.tells(5, kind, 2)
		h.refuses(api.ErrNone, 5, kind, 2)
		h.refuses(api.ErrNone, 5, kind, 4)
		if x.Gen != 2 || !slices.Equal(keptOf(h.k, 5, kind), []int{0, 1, 3}) || h.k.Chains[kind].Gen != 5 {
			t.Errorf("got %v, %v", x, h.k)
		}
		if !slices.Contains(first.Chains[kind].Kept, x) {
			t.Errorf("got %v, of %v", x, first)
		}
		// The other kind has not been asked for.
		for gen := range 5 {
			h.tells(5, 1-kind, gen)
			h.refuses(api.ErrNone, 5, 1-kind, gen)
		}
		h.tells(5, kind, 12)
		h.tells(5, kind, 21)
		for gen := range 22 {
			if gen < 13 || gen == 21 {
				h.refuses(api.ErrNone, 5, kind, gen)
			} else {
				h.tells(5, kind, gen)
			}
		}
	}
}

// Both kinds of one leaf have keys of their own, and so has each leaf.
func TestKeysDiffer(t *testing.T) {
	m := start(t, 2)
	met := map[int]int{}
	h := m.holder(8, 1)
	n := 0
	for leaf := range 8 {
		for kind := range 2 {
			for gen := range 12 {
				x := h.tells(leaf, kind, gen)
				met[x.Key]++
				met[x.Nonce]++
				n += 2
			}
		}
	}
	if len(met) != n {
		t.Errorf("%d keys and nonces are %d", n, len(met))
	}
	// Another root's secret has others, and so has another tree.
	for _, other := range []*holder{m.holder(8, 0), m.holder(4, 1), m.holder(16, 1)} {
		for leaf := range 4 {
			x := other.tells(leaf, 0, 0)
			if met[x.Key] != 0 || met[x.Nonce] != 0 {
				t.Errorf("leaf %d of %d: got %v", leaf, other.leaves, x)
			}
		}
	}
}

// nexts holds that Next is Key of this number, with its keyring.
func (m model) nexts(k api.Keyring, leaf, kind, gen int) (api.GenKey, api.Keyring) {
	m.Helper()
	was := twin(k)
	x, l, e := secrets.Next(m.a, k, leaf, kind)
	y, want, f := secrets.Key(m.a, k, leaf, kind, gen)
	if x != y || x.Gen != gen || e != api.OK || f != api.OK || !same(l, want) {
		m.Fatalf("Next of leaf %d, kind %d: got %v, %v, %d, not %v, %v, %d", leaf, kind, x, l, e, y, want, f)
	}
	if !same(whole(k), whole(was)) {
		m.Fatalf("the keyring handed in is %v now, was %v", k, was)
	}
	return x, l
}

// Next is Key of the chain's number, 0 where there is none; what was passed over stays so.
func TestNext(t *testing.T) {
	for _, leaves := range []int{1, 2, 8, 256} {
		m := start(t, 1)
		h := m.holder(leaves, 0)
		for _, leaf := range []int{0, leaves - 1, leaves / 2} {
			for kind := range 2 {
				from := h.lineAt(leaf, kind)
				for gen := range 3 {
					_, h.k = m.nexts(h.k, leaf, kind, from+gen)
					h.ring.ask(leaf, kind, from+gen)
				}
				h.tells(leaf, kind, from+7)
				h.tells(leaf, kind, from+4)
				_, h.k = m.nexts(h.k, leaf, kind, from+8)
				h.ring.ask(leaf, kind, from+8)
				if want := h.keyring(); !same(h.k, want) {
					t.Fatalf("leaf %d of %d: got %v, not %v", leaf, leaves, h.k, want)
				}
			}
		}
	}
}

// Next and Key in turn, drawn, of all leaves: what a member that talks and one that listens have.
func TestTalk(t *testing.T) {
	for n := range 12 {
		m := start(t, 2)
		d := draws(n)
		leaves := sizes()[n%5]
		talks, hears := m.holder(leaves, n%2), m.holder(leaves, n%2)
		type message struct {
			leaf, kind int
			x          api.GenKey
		}
		var late []message
		for range 120 {
			leaf, kind := d.below(leaves), d.below(2)
			gen := talks.lineAt(leaf, kind)
			var x api.GenKey
			x, talks.k = m.nexts(talks.k, leaf, kind, gen)
			if want, _ := talks.ring.ask(leaf, kind, gen); x != want {
				t.Fatalf("got %v, not %v", x, want)
			}
			late = append(late, message{leaf, kind, x})
			if len(late) > 5 {
				i := d.below(len(late))
				l := late[i]
				late = slices.Delete(late, i, i+1)
				// Too late, or too early, is told by the model, too.
				if y, e := hears.ask(l.leaf, l.kind, l.x.Gen); e == api.OK && y != l.x {
					t.Fatalf("got %v, not %v", y, l.x)
				}
			}
		}
	}
}

// Has tells what lies in a keyring, in its order, also of one made by hand.
func TestHas(t *testing.T) {
	for _, c := range []struct {
		k    api.Keyring
		want []int
	}{
		{api.Keyring{}, nil},
		{api.Keyring{Leaves: 4}, nil},
		{api.Keyring{Leaves: 4, Nodes: []api.Secret{{Node: 3, Sk: 17}}}, []int{17}},
		{api.Keyring{Leaves: 4, Nodes: []api.Secret{{Node: 1, Sk: 17}, {Node: 6, Sk: 12}}}, []int{17, 12}},
		{api.Keyring{Chains: []api.Chain{{Leaf: 1, Gen: 3, Secret: 5}}}, []int{5}},
		{api.Keyring{Nodes: []api.Secret{{Node: 1, Sk: 40}, {Node: 6, Sk: 30}}, Chains: []api.Chain{
			{Leaf: 8, Kind: 9, Gen: 7, Secret: 20, Kept: []api.GenKey{{Gen: 1, Key: 10, Nonce: 11}, {Gen: 2, Key: 4, Nonce: 3}}},
			{Leaf: 8, Kind: 9, Gen: 7, Secret: 2},
			{Leaf: 8, Kind: 9, Gen: 7, Secret: 1, Kept: []api.GenKey{{Gen: 5, Key: 20, Nonce: 40}}},
		}}, []int{40, 30, 20, 10, 11, 4, 3, 2, 1, 20, 40}},
		{api.Keyring{Nodes: []api.Secret{{Sk: -1}, {Sk: 0}}, Chains: []api.Chain{{Secret: greatest, Kept: []api.GenKey{{Key: least, Nonce: -1}}}}}, []int{-1, 0, greatest, least, -1}},
	} {
		was := twin(c.k)
		if got := secrets.Has(c.k); !slices.Equal(got, c.want) || !same(c.k, was) {
			t.Errorf("%v: got %v, not %v", c.k, got, c.want)
		}
	}
	m := start(t, 1)
	h := m.holder(4, 0)
	h.tells(1, api.Application, 2)
	h.tells(1, api.Handshake, 1)
	h.tells(1, api.Application, 0)
	h.tells(3, api.Handshake, 0)
	var want []string
	left, right := `key(key(#0,"tree","left"),"tree",`, `key(key(#0,"tree","right"),"tree",`
	hand, app := `key(`+left+`"right"),"handshake","")`, `key(`+left+`"right"),"application","")`
	one := `key(` + app + `,"secret","0")`
	want = append(want, left+`"left")`, right+`"left")`)
	want = append(want, `key(key(`+hand+`,"secret","0"),"secret","1")`, `key(`+hand+`,"key","0")`, `key(`+hand+`,"nonce","0")`)
	want = append(want, `key(key(`+one+`,"secret","1"),"secret","2")`, `key(`+one+`,"key","1")`, `key(`+one+`,"nonce","1")`)
	want = append(want, `key(key(`+right+`"right"),"handshake",""),"secret","0")`, `key(`+right+`"right"),"application","")`)
	got := secrets.Has(h.k)
	if len(got) != len(want) {
		t.Fatalf("got %v", got)
	}
	for i, x := range got {
		m.shown("Has", want[i], x)
	}
}

// What is told hangs on the root's secret alone: in another arena, in which terms have other numbers, the texts are the same.
func TestOtherArena(t *testing.T) {
	m := start(t, 1)
	n := model{t, term.New()}
	for i := range 9 {
		n.atom(9 - i)
	}
	h, g := m.holder(8, 0), n.holder(8, n.atom(0))
	for _, leaf := range []int{3, 2, 7, 0} {
		x, y := h.tells(leaf, 1, 4), g.tells(leaf, 1, 4)
		m.shown("key", n.show(y.Key), x.Key)
		m.shown("nonce", n.show(y.Nonce), x.Nonce)
	}
}
