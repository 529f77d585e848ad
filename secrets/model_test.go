package secrets_test

import (
	"slices"
	"strconv"
	"testing"

	"cassock/api"
	"cassock/secrets"
	"cassock/term"
)

// The model finds all nodes by halving the tree from the root down, and derives each secret from the root's anew, term by term; it stands on term alone.

// The ends of what an int can be.
const (
	greatest = 1<<63 - 1
	least    = -1 << 63
)

// sizes are how many leaves a tree may have.
func sizes() []int { return []int{1, 2, 4, 8, 16, 32, 64, 128, 256} }

// place is a node of a tree, and the leaves under it: from on, ahead of to.
type place struct{ node, from, to int }

func spot(from, to int) place { return place{from + to - 1, from, to} }

func (p place) over(leaf int) bool { return p.from <= leaf && leaf < p.to }

func (p place) halves() (place, place) {
	half := (p.from + p.to) / 2
	return spot(p.from, half), spot(half, p.to)
}

// model makes terms in an arena, and ends the test where one can't be made.
type model struct {
	testing.TB
	a *term.Arena
}

// start is a model of an arena that has the Atoms 0 to n - 1, which are the terms of these numbers.
func start(t testing.TB, n int) model {
	t.Helper()
	m := model{t, term.New()}
	for i := range n {
		m.atom(i)
	}
	return m
}

func (m model) make(n api.Node) int {
	m.Helper()
	x, e := m.a.Make(n)
	if e != api.OK {
		m.Fatalf("the model makes no %v: got %d", n, e)
	}
	return x
}

func (m model) atom(n int) int { return m.make(api.Node{Op: api.Atom, N: n}) }

func (m model) text(s string) int { return m.make(api.Node{Op: api.Text, S: s}) }

func (m model) expanded(secret int, label, context string) int {
	return m.make(api.Node{Op: api.Key, L: []int{secret, m.text(label), m.text(context)}})
}

// fill makes Atoms, till there is room for no more than these terms.
func (m model) fill(room int) {
	for n := 1 << 40; m.a.Len() < api.MaxTerms-room; n++ {
		m.atom(n)
	}
}

// show is a term's text.
func (m model) show(x int) string {
	s, e := m.a.Show(x)
	if e != api.OK {
		return "none"
	}
	return s
}

// shown holds one term's text.
func (m model) shown(why, want string, x int) {
	m.Helper()
	if got := m.show(x); got != want {
		m.Errorf("%s: got %s, not %s", why, got, want)
	}
}

// below is the secret of the node x of a tree whose root's is this.
func (m model) below(leaves, secret, x int) int {
	for p := spot(0, leaves); p.node != x; {
		left, right := p.halves()
		if x < p.node {
			p, secret = left, m.expanded(secret, "tree", "left")
		} else {
			p, secret = right, m.expanded(secret, "tree", "right")
		}
	}
	return secret
}

// chained is what a leaf's chain goes on from at the number gen.
func (m model) chained(leaves, secret, leaf, kind, gen int) int {
	label := "handshake"
	if kind == api.Application {
		label = "application"
	}
	x := m.expanded(m.below(leaves, secret, leaf+leaf), label, "")
	for g := range gen {
		x = m.expanded(x, "secret", strconv.Itoa(g))
	}
	return x
}

func (m model) genKey(leaves, secret, leaf, kind, gen int) api.GenKey {
	x, g := m.chained(leaves, secret, leaf, kind, gen), strconv.Itoa(gen)
	return api.GenKey{Gen: gen, Key: m.expanded(x, "key", g), Nonce: m.expanded(x, "nonce", g)}
}

// line is a chain's next number, and those that were passed over and are kept.
type line struct {
	gen  int
	kept []int
}

// ring is what has been asked of a keyring so far: the lines of the leaves whose chains were begun, by leaf and kind.
type ring struct {
	model
	leaves, secret int
	lines          map[[2]int]*line
}

func (m model) ring(leaves, secret int) *ring {
	return &ring{m, leaves, secret, map[[2]int]*line{}}
}

// begun tells whether the chains of one of these leaves were.
func (r *ring) begun(from, to int) bool {
	for i := from; i < to; i++ {
		if r.lines[[2]int{i, 0}] != nil {
			return true
		}
	}
	return false
}

// ask is what Key is to tell of a leaf, a kind and a number that may be.
func (r *ring) ask(leaf, kind, gen int) (api.GenKey, api.Errno) {
	l := r.lines[[2]int{leaf, kind}]
	if l == nil {
		l = &line{}
	}
	at := slices.Index(l.kept, gen)
	if gen < l.gen && at < 0 {
		return api.GenKey{}, api.ErrNone
	}
	if gen > l.gen+8 {
		return api.GenKey{}, api.ErrLong
	}
	if !r.begun(leaf, leaf+1) {
		r.lines[[2]int{leaf, 0}], r.lines[[2]int{leaf, 1}] = &line{}, &line{}
		l = r.lines[[2]int{leaf, kind}]
	}
	if gen < l.gen {
		l.kept = slices.Delete(l.kept, at, at+1)
		return r.genKey(r.leaves, r.secret, leaf, kind, gen), api.OK
	}
	for ; l.gen < gen; l.gen++ {
		l.kept = append(l.kept, l.gen)
	}
	l.gen++
	for len(l.kept) > 8 {
		l.kept = l.kept[1:]
	}
	return r.genKey(r.leaves, r.secret, leaf, kind, gen), api.OK
}

// keyring is what is to be left: the secrets of the highest nodes under which no chain was begun, and the chains.
func (r *ring) keyring() api.Keyring {
	k := api.Keyring{Leaves: r.leaves}
	var nodes func(p place)
	nodes = func(p place) {
		if !r.begun(p.from, p.to) {
			k.Nodes = append(k.Nodes, api.Secret{Node: p.node, Sk: r.below(r.leaves, r.secret, p.node)})
		} else if p.to-p.from > 1 {
			left, right := p.halves()
			nodes(left)
			nodes(right)
		}
	}
	nodes(spot(0, r.leaves))
	for leaf := range r.leaves {
		for kind := range 2 {
			if l := r.lines[[2]int{leaf, kind}]; l != nil {
				c := api.Chain{Leaf: leaf, Kind: kind, Gen: l.gen, Secret: r.chained(r.leaves, r.secret, leaf, kind, l.gen)}
				for _, g := range l.kept {
					c.Kept = append(c.Kept, r.genKey(r.leaves, r.secret, leaf, kind, g))
				}
				k.Chains = append(k.Chains, c)
			}
		}
	}
	return k
}

// same tells whether two keyrings say the same.
func same(x, y api.Keyring) bool {
	return x.Leaves == y.Leaves && slices.Equal(x.Nodes, y.Nodes) && slices.EqualFunc(x.Chains, y.Chains, func(c, d api.Chain) bool {
		return c.Leaf == d.Leaf && c.Kind == d.Kind && c.Gen == d.Gen && c.Secret == d.Secret && slices.Equal(c.Kept, d.Kept)
	})
}

// nothing tells whether what stands beside an error is none.
func nothing(x api.GenKey, k api.Keyring) bool {
	return x == api.GenKey{} && k.Leaves == 0 && len(k.Nodes)+len(k.Chains) == 0
}

// twin is a copy of all that lies in a keyring, also behind the ends of its lists.
func twin(k api.Keyring) api.Keyring {
	nodes, chains := len(k.Nodes), len(k.Chains)
	k.Nodes = slices.Clone(k.Nodes[:cap(k.Nodes)])[:nodes]
	all := slices.Clone(k.Chains[:cap(k.Chains)])
	for i, c := range all {
		all[i].Kept = slices.Clone(c.Kept[:cap(c.Kept)])[:len(c.Kept)]
	}
	k.Chains = all[:chains]
	return k
}

// whole is a keyring with what lies behind the ends of its lists.
func whole(k api.Keyring) api.Keyring {
	k.Nodes, k.Chains = k.Nodes[:cap(k.Nodes)], slices.Clone(k.Chains[:cap(k.Chains)])
	for i, c := range k.Chains {
		k.Chains[i].Kept = c.Kept[:cap(c.Kept)]
	}
	return k
}

// holder is a keyring that is asked, beside a model of it.
type holder struct {
	*ring
	k api.Keyring
}

// holder is one of a new keyring.
func (m model) holder(leaves, secret int) *holder {
	m.Helper()
	k, e := secrets.New(m.a, leaves, secret)
	if e != api.OK {
		m.Fatalf("New of %d leaves: got %d", leaves, e)
	}
	return &holder{m.ring(leaves, secret), k}
}

// ask holds what Key tells against the model, and goes on with the keyring that comes of it; with an error with the one that was handed in.
func (h *holder) ask(leaf, kind, gen int) (api.GenKey, api.Errno) {
	h.Helper()
	was := twin(h.k)
	x, k, e := secrets.Key(h.a, h.k, leaf, kind, gen)
	want, f := h.ring.ask(leaf, kind, gen)
	if x != want || e != f {
		h.Fatalf("Key of leaf %d of %d, kind %d, %d: got %v, %d, not %v, %d", leaf, h.leaves, kind, gen, x, e, want, f)
	}
	if !same(whole(h.k), whole(was)) {
		h.Fatalf("Key of leaf %d of %d, kind %d, %d: the keyring handed in is %v now, was %v", leaf, h.leaves, kind, gen, h.k, was)
	}
	if e != api.OK {
		if !nothing(x, k) {
			h.Fatalf("Key of leaf %d of %d, kind %d, %d: %v, %v beside %d", leaf, h.leaves, kind, gen, x, k, e)
		}
		return x, e
	}
	if want := h.keyring(); !same(k, want) {
		h.Fatalf("Key of leaf %d of %d, kind %d, %d: got %v, not %v", leaf, h.leaves, kind, gen, k, want)
	}
	h.k = k
	return x, e
}

// tells holds that Key has no error.
func (h *holder) tells(leaf, kind, gen int) api.GenKey {
	h.Helper()
	x, e := h.ask(leaf, kind, gen)
	if e != api.OK {
		h.Fatalf("Key of leaf %d of %d, kind %d, %d: got %d", leaf, h.leaves, kind, gen, e)
	}
	return x
}

// refuses holds that Key has this error.
func (h *holder) refuses(want api.Errno, leaf, kind, gen int) {
	h.Helper()
	if _, e := h.ask(leaf, kind, gen); e != want {
		h.Fatalf("Key of leaf %d of %d, kind %d, %d: got %d, not %d", leaf, h.leaves, kind, gen, e, want)
	}
}

// draws are numbers that look drawn, the same ones each time.
type draws uint64

// below is a number from 0 on, below n.
func (d *draws) below(n int) int {
	*d = *d*6364136223846793005 + 1442695040888963407
	return int(uint64(*d)>>33) % n
}
