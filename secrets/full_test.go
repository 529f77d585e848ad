package secrets_test

import (
	"strconv"
	"testing"

	"cassock/api"
	"cassock/secrets"
)

// asked is a keyring that was asked ahead, and a request of it.
type asked struct {
	name   string
	leaves int
	ahead  []request
	r      request
}

// demands are requests of all that is made: on the way down, where chains begin and where they go on.
func demands() []asked {
	return []asked{
		{"one leaf", 1, nil, request{0, 1, 0}},
		{"two leaves", 2, nil, request{1, 0, 2}},
		{"a great tree", 256, nil, request{201, 1, 1}},
		{"the sibling", 8, []request{{4, 0, 0}}, request{5, 1, 0}},
		{"beside the way", 8, []request{{4, 0, 0}}, request{0, 0, 3}},
		{"the other kind", 4, []request{{2, 0, 1}}, request{2, 1, 8}},
		{"one more", 4, []request{{2, 0, 1}}, request{2, 0, 2}},
		{"eight ahead", 4, []request{{2, 0, 4}, {2, 0, 1}}, request{2, 0, 13}},
	}
}

// begun is a keyring that was asked ahead, in a new arena.
func (d asked) begun(t *testing.T) *holder {
	t.Helper()
	h := start(t, 3).holder(d.leaves, 1)
	for _, r := range d.ahead {
		h.tells(r.leaf, r.kind, r.gen)
	}
	return h
}

// In an arena that is full what is there is answered.
func TestFullArena(t *testing.T) {
	for _, d := range demands() {
		h := d.begun(t)
		want, left, e := secrets.Key(h.a, h.k, d.r.leaf, d.r.kind, d.r.gen)
		if e != api.OK {
			t.Fatalf("%s: got %d", d.name, e)
		}
		h.fill(0)
		x, k, e := secrets.Key(h.a, h.k, d.r.leaf, d.r.kind, d.r.gen)
		if x != want || !same(k, left) || e != api.OK || h.a.Len() != api.MaxTerms {
			t.Errorf("%s: got %v, %v, %d, not %v, %v", d.name, x, k, e, want, left)
		}
		if k, e := secrets.New(h.a, d.leaves, 1); e != api.OK || len(k.Nodes) != 1 {
			t.Errorf("New: got %v, %d", k, e)
		}
	}
}

// What is not there is too much, but what is wrong is told first, and what is kept needs no room.
func TestFullArenaOfNothing(t *testing.T) {
	m := start(t, 3)
	m.fill(0)
	for _, leaves := range sizes() {
		k, e := secrets.New(m.a, leaves, 2)
		if e != api.OK || !same(k, api.Keyring{Leaves: leaves, Nodes: []api.Secret{{Node: leaves - 1, Sk: 2}}}) {
			t.Fatalf("New: got %v, %d", k, e)
		}
		for _, gen := range []int{0, 1, 8, 9, greatest} {
			m.refusesKey("full", api.ErrLong, k, request{leaves - 1, 1, gen})
		}
		m.refusesNext("full", api.ErrLong, k, 0, 0)
		for _, r := range []request{{-1, 0, 0}, {leaves, 0, 0}, {0, 2, 0}, {0, 0, -1}} {
			m.refusesKey("full, and wrong", api.ErrArg, k, r)
		}
		for _, sk := range []int{-1, api.MaxTerms, api.MaxTerms + 1, greatest, least} {
			k := api.Keyring{Leaves: leaves, Nodes: []api.Secret{{Node: leaves - 1, Sk: sk}}}
			m.refusesKey("full, and no term", api.ErrArg, k, request{0, 0, 0})
			if k, e := secrets.New(m.a, leaves, sk); e != api.ErrArg || !nothing(api.GenKey{}, k) {
				t.Errorf("New: got %v, %d", k, e)
			}
			k.Nodes, k.Chains = nil, []api.Chain{{Gen: 2, Secret: sk}}
			m.refusesKey("full, and no term", api.ErrArg, k, request{0, 0, 2})
			m.refusesKey("full, and no node", api.ErrNone, k, request{0, 1, 2})
		}
	}
	k := api.Keyring{Leaves: 1, Chains: []api.Chain{{Gen: 8, Secret: 1, Kept: gens(7)}}}
	m.refusesKey("full", api.ErrLong, k, request{0, 0, 8})
	m.refusesKey("full, and not kept", api.ErrNone, k, request{0, 0, 6})
	if x, l, e := secrets.Key(m.a, k, 0, 0, 7); x != gens(7)[0] || e != api.OK || len(l.Chains[0].Kept) != 0 {
		t.Errorf("kept: got %v, %v, %d", x, l, e)
	}
}

// One that runs full on the way, wherever that is; with just room enough all is made.
func TestNearlyFullArena(t *testing.T) {
	t.Parallel()
	for _, d := range demands() {
		h := d.begun(t)
		had := h.a.Len()
		want, left, e := secrets.Key(h.a, h.k, d.r.leaf, d.r.kind, d.r.gen)
		if e != api.OK {
			t.Fatalf("%s: got %d", d.name, e)
		}
		needs := h.a.Len() - had
		for room := range needs {
			if needs > 20 && room%4 > 0 && room < needs-4 {
				continue
			}
			h := d.begun(t)
			h.fill(room)
			h.refusesKey(d.name+", room for "+strconv.Itoa(room), api.ErrLong, h.k, d.r)
		}
		h = d.begun(t)
		h.fill(needs)
		x, k, e := secrets.Key(h.a, h.k, d.r.leaf, d.r.kind, d.r.gen)
		if e != api.OK || h.a.Len() != api.MaxTerms {
			t.Fatalf("%s: got %v, %v, %d, of %d terms", d.name, x, k, e, h.a.Len())
		}
		if x.Gen != want.Gen || h.show(x.Key) != d.showsKey(t) || len(k.Nodes) != len(left.Nodes) || len(k.Chains) != len(left.Chains) {
			t.Errorf("%s: got %v, %v, not %v, %v", d.name, x, k, want, left)
		}
	}
}

// showsKey is the text of the key that is to be told.
func (d asked) showsKey(t *testing.T) string {
	t.Helper()
	h := d.begun(t)
	return h.show(h.tells(d.r.leaf, d.r.kind, d.r.gen).Key)
}

// lame makes what a key of a tree of two leaves asks for, all but one thing: in its place stands the term 0, and what comes behind is made of that.
type lame struct {
	model
	without string
}

func (l lame) expanded(secret int, label, context string) int {
	texts := map[string]int{}
	for _, s := range []string{label, context} {
		if s != l.without {
			texts[s] = l.text(s)
		}
	}
	if l.without == label || l.without == label+"/"+context {
		return 0
	}
	return l.make(api.Node{Op: api.Key, L: []int{secret, texts[label], texts[context]}})
}

// What can't be made is told, also where what would be made of the term 0 in its place is there.
func TestNothingOfWhatIsNotThere(t *testing.T) {
	t.Parallel()
	for _, without := range []string{
		"", "tree", "left", "right", "handshake", "application", "key", "nonce", "secret", "0", "1",
		"tree/left", "tree/right", "handshake/", "application/", "key/0", "nonce/0", "secret/0", "key/1", "nonce/1", "secret/1", "all",
	} {
		m := start(t, 2)
		l := lame{m, without}
		left, right := l.expanded(1, "tree", "left"), l.expanded(1, "tree", "right")
		l.expanded(left, "handshake", "")
		c := l.expanded(left, "application", "")
		for _, g := range []string{"0", "1"} {
			l.expanded(c, "key", g)
			l.expanded(c, "nonce", g)
			c = l.expanded(c, "secret", g)
		}
		m.fill(0)
		k := api.Keyring{Leaves: 2, Nodes: []api.Secret{{Node: 1, Sk: 1}}}
		if without != "all" {
			m.refusesKey("without "+without, api.ErrLong, k, request{0, 1, 1})
			continue
		}
		if x, k, e := secrets.Key(m.a, k, 0, 1, 1); x.Gen != 1 || e != api.OK || len(k.Nodes) != 1 || k.Nodes[0] != (api.Secret{Node: 2, Sk: right}) {
			t.Errorf("got %v, %v, %d", x, k, e)
		}
	}
}
