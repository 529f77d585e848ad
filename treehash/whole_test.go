package treehash_test

import (
	"slices"
	"testing"

	"cassock/api"
	"cassock/ratchet"
	"cassock/treehash"
)

// small goes through the trees of 4 leaves that may be: all leaves there or not, all Unmerged.
func small(do func(u []api.TNode)) {
	var root, left, right []api.TNode
	for set := range 16 {
		root = append(root, parent(3, bits(set)...))
		if set < 4 {
			left, right = append(left, parent(1, bits(set)...)), append(right, parent(5, bits(4*set)...))
		}
	}
	for set := range 16 {
		for _, a := range append(left, api.TNode{}) {
			for _, b := range append(right, api.TNode{}) {
				for _, c := range append(root, api.TNode{}) {
					u := among(4, bits(set)...)
					u[1], u[5], u[3] = a, b, c
					if ratchet.Check(u) == api.OK {
						do(copied(u))
					}
				}
			}
		}
	}
}

// bits are the numbers of those that are 1.
func bits(set int) []int {
	var l []int
	for i := range 4 {
		if set>>i&1 == 1 {
			l = append(l, i)
		}
	}
	return l
}

func agreeHash(t *testing.T, m model, u []api.TNode, x int, without ...int) {
	t.Helper()
	if y, e := treehash.Hash(m.a, u, x, without...); y != m.hash(u, x, without...) || e != api.OK {
		t.Fatalf("%s: Hash of %d, without %v: got %d, %d", text(u), x, without, y, e)
	}
}

func agreeVouch(t *testing.T, m model, u []api.TNode, x int) {
	t.Helper()
	p := at(u, x)
	if p.leaf() || u[x].Kind == api.Blank {
		return
	}
	left, right := p.halves()
	byLeft, byRight := m.vouches(u, x)
	if y, e := treehash.Vouch(m.a, u, x, left.x); y != byLeft || e != api.OK {
		t.Fatalf("%s: Vouch of %d, %d: got %d, %d", text(u), x, left.x, y, e)
	}
	if y, e := treehash.Vouch(m.a, u, x, right.x); y != byRight || e != api.OK {
		t.Fatalf("%s: Vouch of %d, %d: got %d, %d", text(u), x, right.x, y, e)
	}
}

// All small trees, without no leaf, one, some and all; trees of one hash are the same.
func TestSmall(t *testing.T) {
	m, hashes := model{t, arena(room)}, map[int]string{}
	small(func(u []api.TNode) {
		was := text(u)
		for x := range u {
			for set := range 16 {
				agreeHash(t, m, u, x, bits(set)...)
			}
			agreeVouch(t, m, u, x)
		}
		if text(u) != was {
			t.Fatalf("%s: it is %s now", was, text(u))
		}
		h := m.hash(u, 3)
		if other, is := hashes[h]; is {
			t.Fatalf("%s and %s have one hash", was, other)
		}
		hashes[h] = was
	})
	if len(hashes) < 500 {
		t.Errorf("only %d trees", len(hashes))
	}
}

// changes are rich trees that differ in one thing each, and the nodes where that is.
func changes() ([][]api.TNode, []int) {
	var trees [][]api.TNode
	var where []int
	for x, l := range rich() {
		var nodes []api.TNode
		for range 5 {
			nodes = append(nodes, l)
		}
		nodes[0].Enc, nodes[1].Hash, nodes[2].Id, nodes[3].Sig = 198, 198, 198, 198
		switch {
		case l.Kind == api.Parent:
			nodes[2], nodes[3], nodes[4] = parent(x, 0), parent(x, 4, 5), api.TNode{}
			nodes = append(nodes, parent(x, 0, 1), parent(x, 7), parent(x, l.Unmerged[:min(1, len(l.Unmerged))]...))
		case l.Kind == api.Leaf:
			nodes[4] = api.TNode{}
		case x%2 == 0:
			nodes = []api.TNode{leaf(x / 2)}
		default:
			nodes = []api.TNode{parent(x)}
		}
		for _, k := range nodes {
			u := rich()
			u[x] = k
			if text(u) != text(rich()) && ratchet.Check(u) == api.OK {
				trees, where = append(trees, u), append(where, x)
			}
		}
	}
	return trees, where
}

// A change is told by the hashes of the node where it is, and of those above it, and of no other one.
func TestWhatIsUnderTells(t *testing.T) {
	m, met := model{t, arena(room)}, map[int]int{}
	trees, where := changes()
	good := rich()
	for k, u := range trees {
		for x := range u {
			p, c := at(u, x), at(u, where[k])
			above := p.from <= c.from && c.to <= p.to
			was, e := treehash.Hash(m.a, good, x)
			is, f := treehash.Hash(m.a, u, x)
			if e != api.OK || f != api.OK || (was != is) != above {
				t.Errorf("%s: Hash of %d: got %d, %d, then %d, %d", text(u), x, was, e, is, f)
			}
			agreeHash(t, m, u, x)
			agreeHash(t, m, u, x, 3, 6)
			agreeVouch(t, m, u, x)
		}
		h, _ := treehash.Hash(m.a, u, 7)
		if other, is := met[h]; is {
			t.Errorf("%s and %s have one hash", text(u), text(trees[other]))
		}
		met[h] = k
	}
	if len(trees) < 50 {
		t.Errorf("only %d trees", len(trees))
	}
}

// Trees of other numbers of leaves have other hashes, also where nobody is in what they have more.
func TestOtherSizes(t *testing.T) {
	a, met := arena(1100), map[int]int{}
	for _, n := range counts() {
		h, e := treehash.Hash(a, grown(n), n-1)
		if _, is := met[h]; is || e != api.OK {
			t.Errorf("%d leaves: got %d, %d", n, h, e)
		}
		met[h] = n
		// What is the same under them has one.
		x, _ := treehash.Hash(a, grown(n), 0)
		y, _ := treehash.Hash(a, grown(256), 0)
		z, _ := treehash.Hash(a, grown(256), n-1)
		if x != y || z != h {
			t.Errorf("%d leaves: got %d, %d, %d, %d", n, x, y, z, h)
		}
	}
}

// Members come and go, and make new paths: all is vouched for, and what is told of the trees that come of it is as the model has it.
func TestComeAndGo(t *testing.T) {
	d, m, most := draws(5), model{t, arena(35000)}, 0
	u := among(1, 0)
	for round := range 1500 {
		l := ratchet.Members(u)
		i, coming, e := l[d.below(len(l))], 6, api.OK
		if round > 800 {
			coming = 2
		}
		switch c := d.below(10); {
		case c < coming && len(l) < api.MaxLeaves:
			u, _, e = ratchet.Add(u, leaf(round))
		case c < 7 && len(l) > 1:
			u, e = ratchet.Remove(u, i)
		case round%10 == 0:
			u = m.committed(u, i, 20*round)
		}
		if e != api.OK || ratchet.Check(u) != api.OK {
			t.Fatalf("%d: got %s, %d", round, text(u), e)
		}
		most = max(most, len(u))
		if round%50 == 0 && m.a.Len() < api.MaxTerms-8000 {
			agree(t, m, u, &d)
		}
	}
	if most < 255 {
		t.Errorf("at most %d nodes", most)
	}
}

func agree(t *testing.T, m model, u []api.TNode, d *draws) {
	t.Helper()
	n := (len(u) + 1) / 2
	valid(t, m.a, u, true)
	for x := range u {
		agreeHash(t, m, u, x)
		if len(u) < 64 || d.below(8) == 0 {
			agreeVouch(t, m, u, x)
		}
	}
	agreeHash(t, m, u, n-1, d.below(n), d.below(n), -d.below(n))
	for _, y := range []int{2 * d.below(n), d.below(len(u))} {
		if v := copied(u); v[y].Kind != api.Blank {
			v[y].Hash = 3
			valid(t, m.a, v, m.valid(v))
		}
	}
}

// A tree and a list that are handed in stay as they were, and what is behind their ends, too.
func TestHandedIn(t *testing.T) {
	m := model{t, arena(room)}
	whole := append(rich(), rich()...)
	whole[7].Unmerged = []int{3, 6, 99, 99}[:2]
	u := whole[:15]
	numbers := []int{6, 3, 3, -1, 88, 88}
	was, room, list := text(whole), whole[7].Unmerged[:4], slices.Clone(numbers)
	for x := range u {
		treehash.Hash(m.a, u, x, numbers[:4]...)
		treehash.Vouch(m.a, u, x, x-1)
		treehash.Vouch(m.a, u, 7, x)
	}
	treehash.Valid(m.a, u)
	if text(whole) != was || !slices.Equal(room, []int{3, 6, 99, 99}) || !slices.Equal(numbers, list) {
		t.Errorf("got %s, %v, %v", text(whole), room, numbers)
	}
	// Terms stay, too, whatever is written into what they were made of.
	h, _ := treehash.Hash(m.a, u, 7, numbers[:1]...)
	want := m.hash(rich(), 7, 6)
	for x := range u {
		for k := range u[x].Unmerged {
			u[x].Unmerged[k] = 1
		}
		u[x] = api.TNode{}
	}
	if again, e := treehash.Hash(m.a, rich(), 7, 6); h != want || again != want || e != api.OK {
		t.Errorf("got %d, %d, %d", h, again, e)
	}
}
