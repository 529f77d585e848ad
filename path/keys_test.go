package path_test

import (
	"slices"
	"testing"

	"cassock/api"
	"cassock/path"
	"cassock/term"
)

func (m model) still(why string, u []api.TNode, keys, want []api.Secret) {
	m.Helper()
	n := m.a.Len()
	if got := path.Keys(m.a, u, keys); !slices.Equal(got, want) {
		m.Errorf("%s: got %v, not %v", why, got, want)
	}
	if m.a.Len() != n {
		m.Errorf("%s: terms were made", why)
	}
}

// Keys that still go, and such as do not: those that do stay in order, also if they stand twice.
func TestKeys(t *testing.T) {
	m := start(t)
	u := m.rich()
	key := func(x, sk int) api.Secret { return api.Secret{Node: x, Sk: m.atom(sk)} }
	var all []api.Secret
	for x := range u {
		if u[x].Kind != api.Blank {
			all = append(all, key(x, x))
		}
	}
	m.still("all", u, all, all)
	m.still("none", u, nil, nil)
	m.still("empty", u, []api.Secret{}, nil)
	back := slices.Clone(all)
	slices.Reverse(back)
	m.still("all, backward", u, back, back)
	m.still("some", u, []api.Secret{key(13, 13), key(3, 1), key(0, 0), key(5, 5), key(7, 7), key(0, 2), key(4, 4)}, []api.Secret{key(13, 13), key(0, 0), key(7, 7)})
	m.still("twice", u, []api.Secret{key(3, 3), key(3, 1), key(3, 3), key(0, 0), key(3, 3)}, []api.Secret{key(3, 3), key(3, 3), key(0, 0), key(3, 3)})
	m.still("another one's", u, []api.Secret{key(0, 1), key(1, 0), key(2, 12), key(12, 2)}, nil)
	m.still("a Blank one's", u, []api.Secret{key(4, 4), key(5, 5), key(11, 11)}, nil)
	// A key may stand at two nodes.
	u[14].Enc = u[0].Enc
	m.still("two nodes'", u, []api.Secret{key(14, 0), key(14, 14), key(0, 0)}, []api.Secret{key(14, 0), key(0, 0)})
	// The public key is none of a secret one, nor is the secret one's key its own.
	m.still("public", u, []api.Secret{{Node: 0, Sk: u[0].Enc}, {Node: 3, Sk: m.pub(u[3].Enc)}}, nil)
}

// Numbers that are no node's, or no term's.
func TestKeysOutside(t *testing.T) {
	m := start(t)
	u := m.full(2)
	u[1] = m.parent(1)
	var keys []api.Secret
	for _, x := range []int{-1, -2, -3, 3, 4, 5, 6, 256, 511, 1 << 31, 1 << 32, 1<<32 + 1, 1 << 62, 1<<62 + 1, greatest, least, least + 1, least + 2} {
		for _, sk := range []int{0, 1, 2} {
			keys = append(keys, api.Secret{Node: x, Sk: m.atom(sk)})
		}
		keys = append(keys, api.Secret{Node: 0, Sk: x + 1<<33}, api.Secret{Node: x, Sk: x})
	}
	for _, sk := range []int{-1, m.a.Len(), m.a.Len() + 1, greatest, least, 1 << 32, u[0].Enc} {
		keys = append(keys, api.Secret{Node: 0, Sk: sk})
	}
	m.still("none go", u, keys, nil)
	m.still("one goes", u, append(keys, api.Secret{Node: 1, Sk: m.atom(1)}), []api.Secret{{Node: 1, Sk: m.atom(1)}})
	// An Enc that is no term, and its numbers.
	for _, x := range []int{-1, m.a.Len(), greatest, least} {
		u[0].Enc = x
		m.still("no term", u, []api.Secret{{Node: 0, Sk: x}, {Node: 0, Sk: m.atom(0)}, {Node: 0, Sk: 0}, {Node: 0, Sk: -1}}, nil)
	}
}

// Any list of nodes will do; what is Blank is so whatever else it has.
func TestKeysOfNoTree(t *testing.T) {
	m := start(t)
	one, two := m.leaf(0), m.parent(7)
	key := func(x, sk int) api.Secret { return api.Secret{Node: x, Sk: m.atom(sk)} }
	keys := []api.Secret{key(0, 0), key(1, 7), key(2, 0), key(3, 7), key(0, 7)}
	m.still("no nodes", nil, keys, nil)
	m.still("no nodes", []api.TNode{}, keys, nil)
	m.still("two", []api.TNode{one, two}, keys, keys[:2])
	m.still("four", []api.TNode{one, two, one, two}, keys, keys[:4])
	m.still("Blank", []api.TNode{{Enc: one.Enc}, two, {Kind: api.Blank, Enc: one.Enc}}, keys, keys[1:2])
	m.still("another kind", []api.TNode{{Kind: 3, Enc: one.Enc}, two, {Kind: -1, Enc: one.Enc}, {Kind: greatest, Enc: two.Enc}}, keys, keys[:4])
	m.still("a Parent of a leaf's, a Leaf of a parent's", []api.TNode{two, one}, []api.Secret{key(0, 7), key(1, 0), key(0, 0), key(1, 7)}, []api.Secret{key(0, 7), key(1, 0)})
	m.still("Unmerged", []api.TNode{{Kind: api.Leaf, Enc: one.Enc, Unmerged: []int{-1, 5, 5}}}, keys, keys[:1])
	m.still("other fields that are no terms", []api.TNode{{Kind: api.Leaf, Enc: one.Enc, Id: -1, Sig: greatest, Hash: least}}, keys, keys[:1])
	many := make([]api.TNode, 1000)
	many[999] = one
	m.still("many", many, []api.Secret{key(999, 0), key(998, 0), key(1000, 0)}, []api.Secret{key(999, 0)})
}

// Only Pub of a key goes: no other kind of the same parts, nor what is of it further down.
func TestKeysOfOtherKinds(t *testing.T) {
	m := start(t)
	sk := m.atom(0)
	label := m.text("")
	for _, x := range []int{sk, label, m.list(), m.list(sk), m.of(api.Hash, sk), m.of(api.Mix, sk, sk), m.of(api.Key, sk, label, sk), m.of(api.Seal, sk, sk, sk, sk), m.of(api.Enc, sk, sk, sk, sk), m.of(api.Sig, sk, sk), m.of(api.Mac, sk, sk), m.of(api.Blind, sk, sk), m.pub(m.pub(sk)), m.pub(m.list(sk)), m.pub(label)} {
		m.still("another kind", []api.TNode{{Kind: api.Leaf, Enc: x}, {Kind: api.Parent, Enc: x}}, []api.Secret{{Node: 0, Sk: sk}, {Node: 1, Sk: sk}}, nil)
	}
	// Any term may be a secret key: that of number 0, one that all know, a public one.
	for _, x := range []int{0, label, m.list(), m.pub(sk)} {
		m.still("a key", []api.TNode{{Kind: api.Leaf, Enc: m.pub(x)}}, []api.Secret{{Node: 0, Sk: x}}, []api.Secret{{Node: 0, Sk: x}})
	}
	// The term 0 is of no term.
	m.still("the term 0", []api.TNode{{Kind: api.Leaf}}, []api.Secret{{}, {Node: 0, Sk: 1}, {Node: 0, Sk: -1}}, nil)
}

func TestKeysOfNoArena(t *testing.T) {
	for _, a := range []*term.Arena{nil, term.New(), {}} {
		if l := path.Keys(a, []api.TNode{{Kind: api.Leaf}, {Kind: api.Parent}}, []api.Secret{{}, {Node: 1}}); len(l) != 0 {
			t.Errorf("got %v", l)
		}
	}
}

// Who is handed keys has no part in those that were handed in.
func TestKeysAreOnesOwn(t *testing.T) {
	m := start(t)
	u := m.full(2)
	keys := []api.Secret{{Node: 0, Sk: m.atom(0)}, {Node: 2, Sk: m.atom(2)}, {Node: 9, Sk: 9}}
	l := path.Keys(m.a, u, keys[:2])
	l = append(l, api.Secret{Node: 7, Sk: 7})
	l[0].Sk = 77
	if keysText(keys) != keysText([]api.Secret{{Node: 0, Sk: m.atom(0)}, {Node: 2, Sk: m.atom(2)}, {Node: 9, Sk: 9}}) {
		t.Errorf("got %v", keys)
	}
}
