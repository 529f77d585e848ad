package secrets_test

import (
	"slices"
	"testing"

	"cassock/api"
	"cassock/deduce"
	"cassock/secrets"
)

// can tells whether a term can be derived of these.
func (m model) can(goal int, of []int) bool {
	m.Helper()
	is, e := deduce.Derives(m.a, of, goal)
	if e != api.OK {
		m.Fatalf("Derives of %v: got %d", of, e)
	}
	return is
}

// request is a leaf, a kind and a number.
type request struct{ leaf, kind, gen int }

// holdsForgotten holds that whoever has all that is left can derive nothing of what was told, of what a chain went on from ahead, or of what is above a leaf whose chains were begun; and that what is still to be told can be derived.
func (h *holder) holdsForgotten(told []api.GenKey) {
	h.Helper()
	has := secrets.Has(h.k)
	for _, x := range told {
		if h.can(x.Key, has) || h.can(x.Nonce, has) {
			h.Fatalf("%v is known of %v", x, h.k)
		}
	}
	for who, l := range h.lines {
		leaf, kind := who[0], who[1]
		for g := range l.gen {
			if h.can(h.chained(h.leaves, h.secret, leaf, kind, g), has) {
				h.Fatalf("what leaf %d, kind %d went on from at %d is known of %v", leaf, kind, g, h.k)
			}
			x := h.genKey(h.leaves, h.secret, leaf, kind, g)
			if is := slices.Contains(l.kept, g); h.can(x.Key, has) != is || h.can(x.Nonce, has) != is {
				h.Fatalf("leaf %d, kind %d, %d, kept: %v, of %v", leaf, kind, g, is, h.k)
			}
		}
		for g := l.gen; g < l.gen+3; g++ {
			x := h.genKey(h.leaves, h.secret, leaf, kind, g)
			if !h.can(x.Key, has) || !h.can(x.Nonce, has) {
				h.Fatalf("leaf %d, kind %d, %d is not known of %v", leaf, kind, g, h.k)
			}
		}
	}
	for x := range 2*h.leaves - 1 {
		p := h.at(x)
		if is := !h.begun(p.from, p.to); h.can(h.below(h.leaves, h.secret, x), has) != is {
			h.Fatalf("the secret of node %d is known: %v, of %v", x, !is, h.k)
		}
	}
}

// at is the node of this number, and the leaves under it.
func (r *ring) at(x int) place {
	p := spot(0, r.leaves)
	for p.node != x {
		left, right := p.halves()
		if p = left; x > p.to+p.to-2 {
			p = right
		}
	}
	return p
}

// What is left tells nothing of what was told, nor of a chain's past, whoever asked for what.
func TestForgotten(t *testing.T) {
	t.Parallel()
	for n := range 20 {
		m := start(t, 3)
		d := draws(n)
		h := m.holder(sizes()[n%4], n%3)
		var told []api.GenKey
		for range 18 {
			r := request{d.below(h.leaves), d.below(2), 0}
			r.gen = max(0, h.lineAt(r.leaf, r.kind)-4+d.below(12))
			if x, e := h.ask(r.leaf, r.kind, r.gen); e == api.OK {
				told = append(told, x)
			}
			h.holdsForgotten(told)
		}
	}
}

// Also what is pushed out of Kept is not known any more, told or not; and all of one keyring stays known of the one ahead.
func TestForgottenPushedOut(t *testing.T) {
	m := start(t, 1)
	h := m.holder(2, 0)
	for gen := 8; gen < 45; gen += 9 {
		ahead := secrets.Has(h.k)
		x := h.tells(1, api.Handshake, gen)
		h.holdsForgotten([]api.GenKey{x})
		for _, y := range append(secrets.Has(h.k), x.Key, x.Nonce) {
			if !m.can(y, ahead) {
				t.Errorf("%s is not known of what was ahead", m.show(y))
			}
		}
	}
}

// A key alone tells nothing but itself: no nonce, no other key, nothing that a chain goes on from.
func TestKeysTellNothing(t *testing.T) {
	m := start(t, 1)
	h := m.holder(2, 0)
	var l []int
	for _, r := range []request{{0, 0, 3}, {0, 0, 1}, {0, 1, 0}, {1, 0, 2}} {
		x := h.tells(r.leaf, r.kind, r.gen)
		l = append(l, x.Key, x.Nonce)
	}
	for i, x := range l {
		others := slices.Delete(slices.Clone(l), i, i+1)
		if m.can(x, others) {
			t.Errorf("%s is known of the others", m.show(x))
		}
	}
	for _, x := range secrets.Has(h.k) {
		if m.can(x, l) {
			t.Errorf("%s is known of what was told", m.show(x))
		}
	}
}

// All that can be asked of a tree of two leaves, four times over, of numbers from 0 to 2 and such as are too far; each key is told once at the most.
func TestAllRequests(t *testing.T) {
	t.Parallel()
	var all []request
	for n := range 16 {
		all = append(all, request{n & 1, n >> 1 & 1, []int{0, 1, 2, 9}[n>>2]})
	}
	m := start(t, 1)
	var ask func(h *holder, told []int, left int)
	ask = func(h *holder, told []int, left int) {
		if left == 0 {
			return
		}
		for _, r := range all {
			g := &holder{h.ring.copied(), h.k}
			x, e := g.ask(r.leaf, r.kind, r.gen)
			if e == api.OK && (slices.Contains(told, x.Key) || slices.Contains(told, x.Nonce)) {
				t.Fatalf("%v is told twice", x)
			}
			if e == api.OK {
				ask(g, append(slices.Clip(told), x.Key, x.Nonce), left-1)
			}
		}
	}
	ask(m.holder(2, 0), nil, 4)
}

// copied is a ring that goes its own way from here.
func (r *ring) copied() *ring {
	c := r.model.ring(r.leaves, r.secret)
	for who, l := range r.lines {
		c.lines[who] = &line{l.gen, slices.Clone(l.kept)}
	}
	return c
}

// Each key is told once: again it is none, also behind others, and by Next.
func TestToldOnce(t *testing.T) {
	for n := range 20 {
		m := start(t, 1)
		d := draws(n)
		h := m.holder(sizes()[n%4], 0)
		told := map[request]bool{}
		keys := map[int]bool{}
		for range 80 {
			r := request{d.below(h.leaves), d.below(2), 0}
			r.gen = d.below(h.lineAt(r.leaf, r.kind) + 6)
			x, e := h.ask(r.leaf, r.kind, r.gen)
			if e == api.OK && (told[r] || keys[x.Key] || keys[x.Nonce]) || told[r] && e != api.ErrNone {
				t.Fatalf("%v: got %v, %d", r, x, e)
			}
			if e == api.OK {
				told[r], keys[x.Key], keys[x.Nonce] = true, true, true
			}
		}
	}
}

// orders tells f each order of l.
func orders(l []request, f func(l []request)) {
	var turn func(n int)
	turn = func(n int) {
		if n == len(l) {
			f(l)
			return
		}
		for i := n; i < len(l); i++ {
			l[n], l[i] = l[i], l[n]
			turn(n + 1)
			l[n], l[i] = l[i], l[n]
		}
	}
	turn(0)
}

// In whatever order: where two tell a request's key, it is the same one; what all tell leaves the same keyring.
func TestOrders(t *testing.T) {
	for _, c := range []struct {
		leaves int
		all    bool
		l      []request
	}{
		{1, true, []request{{0, 0, 0}, {0, 0, 1}, {0, 0, 2}, {0, 0, 3}, {0, 0, 8}}},
		{1, true, []request{{0, 0, 8}, {0, 0, 0}, {0, 1, 4}, {0, 1, 3}}},
		{4, true, []request{{0, 0, 0}, {1, 0, 0}, {2, 1, 0}, {3, 0, 1}, {0, 0, 1}}},
		{4, true, []request{{3, 1, 2}, {3, 0, 2}, {3, 1, 1}, {0, 1, 5}}},
		{256, true, []request{{255, 1, 2}, {254, 0, 2}, {0, 1, 1}, {128, 1, 5}, {127, 0, 0}}},
		{1, false, []request{{0, 0, 0}, {0, 0, 7}, {0, 0, 9}, {0, 0, 12}, {0, 0, 20}}},
		{2, false, []request{{0, 0, 0}, {1, 0, 6}, {1, 0, 14}, {1, 0, 1}, {1, 0, 22}}},
	} {
		m := start(t, 1)
		met := map[request]api.GenKey{}
		var left *api.Keyring
		orders(c.l, func(l []request) {
			h := m.holder(c.leaves, 0)
			for _, r := range l {
				x, e := h.ask(r.leaf, r.kind, r.gen)
				if y, is := met[r]; is && e == api.OK && x != y || c.all && e != api.OK {
					t.Fatalf("%v: %v: got %v, %d, not %v", l, r, x, e, y)
				}
				if e == api.OK {
					met[r] = x
				}
			}
			if left == nil {
				left = &h.k
			}
			if c.all && !same(h.k, *left) {
				t.Fatalf("%v: got %v, not %v", l, h.k, *left)
			}
		})
		if len(met) != len(c.l) {
			t.Errorf("%v: only %v", c.l, met)
		}
	}
}

// What is asked of a keyring again is the same, whatever was asked in between, and makes nothing: what went on is another one.
func TestAskedAgain(t *testing.T) {
	for n := range 12 {
		m := start(t, 2)
		d := draws(n)
		h := m.holder(sizes()[n%5], 1)
		for range 10 {
			h.ask(d.below(h.leaves), d.below(2), d.below(6))
		}
		was := twin(h.k)
		for range 10 {
			r := request{d.below(h.leaves), d.below(2), d.below(12)}
			x, k, e := secrets.Key(m.a, h.k, r.leaf, r.kind, r.gen)
			k = twin(k)
			behind := &holder{h.ring.copied(), h.k}
			for range 5 {
				behind.ask(d.below(h.leaves), d.below(2), d.below(12))
			}
			made := m.a.Len()
			y, l, f := secrets.Key(m.a, h.k, r.leaf, r.kind, r.gen)
			if x != y || !same(k, l) || e != f || m.a.Len() != made {
				t.Fatalf("%v: got %v, %v, %d, not %v, %v, %d; %d terms, not %d", r, y, l, f, x, k, e, m.a.Len(), made)
			}
			if !same(whole(h.k), whole(was)) {
				t.Fatalf("%v is %v now", was, h.k)
			}
		}
	}
}

// spoil writes other things into all that lies in a keyring, also behind the ends of its lists.
func spoil(k api.Keyring) {
	for _, c := range k.Chains[:cap(k.Chains)] {
		for i := range c.Kept[:cap(c.Kept)] {
			c.Kept[:cap(c.Kept)][i] = api.GenKey{Gen: -7, Key: -8, Nonce: -9}
		}
	}
	for i := range k.Chains[:cap(k.Chains)] {
		k.Chains[:cap(k.Chains)][i] = api.Chain{Leaf: -3, Kind: -4, Gen: -5, Secret: -6}
	}
	for i := range k.Nodes[:cap(k.Nodes)] {
		k.Nodes[:cap(k.Nodes)][i] = api.Secret{Node: -1, Sk: -2}
	}
}

// talked is a keyring of four leaves in which much lies: nodes, chains, kept keys.
func (m model) talked() *holder {
	m.Helper()
	h := m.holder(8, 0)
	for _, r := range []request{{1, 0, 3}, {1, 1, 5}, {6, 0, 2}, {1, 1, 2}, {6, 1, 8}, {6, 1, 10}} {
		h.tells(r.leaf, r.kind, r.gen)
	}
	return h
}

// several are requests of that keyring: of a chain that is there, ahead and kept; of one that is not; and such as have an error.
func several() []request {
	return []request{{1, 0, 4}, {1, 0, 6}, {1, 0, 1}, {1, 1, 1}, {6, 1, 12}, {6, 1, 5}, {0, 0, 0}, {7, 1, 2}, {3, 0, 8}, {4, 1, 1}, {1, 0, 3}, {1, 0, 13}, {0, 0, 9}, {8, 0, 0}, {0, 2, 0}, {0, 0, -1}}
}

// What is answered is the caller's own: whoever writes into it changes neither what was handed in nor what was answered else.
func TestAnswersAreOnesOwn(t *testing.T) {
	m := start(t, 1)
	for _, r := range several() {
		for _, next := range []bool{false, true} {
			ask := func(k api.Keyring) (api.GenKey, api.Keyring, api.Errno) {
				if next {
					return secrets.Next(m.a, k, r.leaf, r.kind)
				}
				return secrets.Key(m.a, k, r.leaf, r.kind, r.gen)
			}
			h := m.talked()
			was := twin(h.k)
			x, k, e := ask(h.k)
			y, l, f := ask(h.k)
			want := twin(l)
			spoil(k)
			if !same(whole(h.k), whole(was)) || !same(whole(l), whole(want)) {
				t.Fatalf("%v: %v is %v now, %v is %v", r, was, h.k, want, l)
			}
			if z, n, g := ask(h.k); x != y || x != z || e != f || e != g || !same(n, want) {
				t.Fatalf("%v: got %v, %v, %d, not %v, %v, %d", r, z, n, g, y, want, f)
			}
			// Nor does writing into what was handed in change what was answered.
			spoil(h.k)
			if !same(whole(l), whole(want)) {
				t.Fatalf("%v: %v is %v now", r, want, l)
			}
		}
	}
	k, _ := secrets.New(m.a, 4, 0)
	l, _ := secrets.New(m.a, 4, 0)
	spoil(k)
	if n, e := secrets.New(m.a, 4, 0); !same(l, api.Keyring{Leaves: 4, Nodes: []api.Secret{{Node: 3}}}) || !same(n, l) || e != api.OK {
		t.Errorf("got %v, %v, %d", l, n, e)
	}
	h := m.talked()
	was := twin(h.k)
	has, again := secrets.Has(h.k), secrets.Has(h.k)
	want := slices.Clone(again)
	for i := range has[:cap(has)] {
		has[:cap(has)][i] = -9
	}
	if !slices.Equal(again, want) || !slices.Equal(secrets.Has(h.k), want) || !same(whole(h.k), whole(was)) {
		t.Errorf("got %v, %v, not %v", again, h.k, want)
	}
}

// No two lists of one answer share anything: one chain's kept keys may go on, and others stay.
func TestListsShareNothing(t *testing.T) {
	m := start(t, 1)
	for _, r := range several() {
		h := m.talked()
		_, k, e := secrets.Key(m.a, h.k, r.leaf, r.kind, r.gen)
		if e != api.OK {
			continue
		}
		for i := range k.Chains {
			was := twin(k)
			l := k.Chains[i].Kept[:cap(k.Chains[i].Kept)]
			for j := range l {
				l[j] = api.GenKey{Gen: -7, Key: -8, Nonce: -9}
			}
			for j, c := range k.Chains {
				if j != i && !slices.Equal(c.Kept, was.Chains[j].Kept) {
					t.Fatalf("%v: chain %d is written into by %d: %v, not %v", r, j, i, c.Kept, was.Chains[j].Kept)
				}
			}
		}
	}
	// Also where those of the keyring that was handed in do.
	kept := []api.GenKey{{Gen: 0, Key: 0, Nonce: 0}, {Gen: 1, Key: 0, Nonce: 0}, {Gen: 2, Key: 0, Nonce: 0}}
	k := api.Keyring{Leaves: 1, Chains: []api.Chain{{Gen: 3, Kept: kept[:2]}, {Kind: 1, Gen: 3, Kept: kept}}}
	was := twin(k)
	x, l, e := secrets.Key(m.a, k, 0, 0, 0)
	if x != kept[0] || e != api.OK || !slices.Equal(l.Chains[0].Kept, kept[1:2]) || !slices.Equal(l.Chains[1].Kept, kept) || !same(k, was) {
		t.Errorf("got %v, %v, %d", x, l, e)
	}
	_, l, e = secrets.Key(m.a, k, 0, 0, 4)
	if e != api.OK || len(l.Chains[0].Kept) != 3 || !slices.Equal(l.Chains[1].Kept, kept) || !same(k, was) {
		t.Errorf("got %v, %d", l, e)
	}
}

// What is handed in stays as it was, with room behind the ends of its lists and without, also with an error.
func TestHandedInStays(t *testing.T) {
	m := start(t, 1)
	for _, r := range several() {
		for _, room := range []int{0, 1, 20} {
			h := m.talked()
			k := h.k
			k.Nodes = slices.Clip(k.Nodes)
			k.Chains = slices.Clip(k.Chains)
			if room > 0 {
				k.Nodes = append(k.Nodes, make([]api.Secret, room)...)[:len(k.Nodes)]
				k.Chains = append(k.Chains, make([]api.Chain, room)...)[:len(k.Chains)]
			}
			for i, c := range k.Chains {
				k.Chains[i].Kept = append(slices.Clip(c.Kept), make([]api.GenKey, room)...)[:len(c.Kept)]
			}
			was := twin(k)
			x, l, e := secrets.Key(m.a, k, r.leaf, r.kind, r.gen)
			y, n, f := secrets.Key(m.a, h.k, r.leaf, r.kind, r.gen)
			secrets.Next(m.a, k, r.leaf, r.kind)
			secrets.Has(k)
			if !same(whole(k), whole(was)) {
				t.Fatalf("%v: %v is %v now", r, was, k)
			}
			if x != y || !same(l, n) || e != f {
				t.Fatalf("%v: got %v, %v, %d, not %v, %v, %d", r, x, l, e, y, n, f)
			}
		}
	}
}
