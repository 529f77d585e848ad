package path_test

import (
	"slices"
	"testing"

	"cassock/api"
	"cassock/path"
	"cassock/ratchet"
	"cassock/treehash"
)

// small goes through the trees of 4 leaves that may be: all leaves there or not, all Unmerged.
func small(t *testing.T, do func(m model, u []api.TNode)) {
	sets := func(from, most int) [][]int {
		l := [][]int{nil}
		for set := range most {
			l = append(l, append([]int{}, bits(set*from)...))
		}
		return l
	}
	for set := range 16 {
		for _, left := range sets(1, 4) {
			for _, right := range sets(4, 4) {
				for _, top := range sets(1, 16) {
					m := start(t)
					u := m.among(4, bits(set)...)
					for x, l := range map[int][]int{1: left, 5: right, 3: top} {
						if l != nil {
							u[x] = m.parent(x, l...)
						}
					}
					if ratchet.Check(u) == api.OK {
						do(m, u)
					}
				}
			}
		}
	}
}

// bits are the numbers of those that are 1.
func bits(set int) []int {
	var l []int
	for i := range 4 {
		if set>>i&1 == 1 {
			l = append(l, i)
		}
	}
	return l
}

// All small trees: each member's path, with no fresh leaf, one, some and all, and all who take it.
func TestSmall(t *testing.T) {
	trees, took := 0, 0
	small(t, func(m model, u []api.TNode) {
		trees++
		aad, was := m.atom(99), text(u)
		for i := range 4 {
			if u[2*i].Kind == api.Blank {
				m.noPath("nobody", api.ErrNone, u, i, m.leaf(9), m.atom(60), 70, aad)
				continue
			}
			for set := range 16 {
				fresh := bits(set)
				made := m.makes(u, i, m.leaf(9), m.atom(60), 70, aad, fresh...)
				mustBe(t, made.Tree)
				for me := range 4 {
					if me == i || u[2*me].Kind == api.Blank || slices.Contains(fresh, me) {
						m.refuses("no taker", api.ErrNone, u, i, made.Path, me, m.held(u, me), aad, fresh...)
						continue
					}
					took++
					m.takes(u, i, made, me, m.held(u, me), aad, fresh...)
				}
			}
		}
		if text(u) != was {
			t.Fatalf("%s: it is %s now", was, text(u))
		}
	})
	if trees < 500 || took < 5000 {
		t.Errorf("only %d trees, %d takers", trees, took)
	}
}

// crowd is a group whose members have their keys, as they took them.
type crowd struct {
	model
	tree []api.TNode
	keys map[int][]api.Secret
	next int
}

func gathered(t *testing.T) *crowd {
	c := &crowd{model: start(t), keys: map[int][]api.Secret{}}
	l, sk := c.newcomer()
	c.tree, _ = ratchet.New(l)
	c.keys[0] = []api.Secret{{Node: 0, Sk: sk}}
	return c
}

// drawn is an Atom that stands nowhere yet.
func (c *crowd) drawn() int {
	c.next++
	return c.atom(c.next)
}

func (c *crowd) newcomer() (api.TNode, int) {
	sk := c.drawn()
	return api.TNode{Kind: api.Leaf, Id: c.drawn(), Enc: c.pub(sk), Sig: c.drawn(), Hash: c.text("")}, sk
}

func (c *crowd) comes() int {
	l, sk := c.newcomer()
	u, i, e := ratchet.Add(c.tree, l)
	if e != api.OK {
		c.Fatalf("got %d", e)
	}
	c.tree, c.keys[i] = u, []api.Secret{{Node: 2 * i, Sk: sk}}
	return i
}

func (c *crowd) goes(i int) {
	u, e := ratchet.Remove(c.tree, i)
	if e != api.OK {
		c.Fatalf("got %d", e)
	}
	c.tree = u
	delete(c.keys, i)
}

// renews is a new path of i's, that all others but who is fresh take; these are told what is above both.
func (c *crowd) renews(i int, fresh ...int) {
	c.Helper()
	u, aad := c.tree, c.drawn()
	l := u[2*i]
	made, e := path.Make(c.a, u, i, l, c.drawn(), c.next+1, aad, fresh...)
	if e != api.OK {
		c.Fatalf("Make: got %d", e)
	}
	c.next += made.Draws
	if is, e := treehash.Valid(c.a, made.Tree); !is || e != api.OK || ratchet.Check(made.Tree) != api.OK {
		c.Fatalf("Valid of %s: got %v, %d", text(made.Tree), is, e)
	}
	if e := path.Shape(c.a, u, i, made.Path, fresh...); e != api.OK {
		c.Fatalf("Shape: got %d", e)
	}
	for me, keys := range c.keys {
		if me == i {
			c.keys[me] = slices.Clone(made.Keys)
			continue
		}
		if slices.Contains(fresh, me) {
			c.refuses("fresh", api.ErrNone, u, i, made.Path, me, keys, aad, fresh...)
			c.keys[me] = c.taken(made, i, me, keys).Keys
			continue
		}
		took, e := path.Take(c.a, u, i, made.Path, me, keys, aad, fresh...)
		if e != api.OK || took.Secret != made.Secret || !ratchet.Same(took.Tree, made.Tree) || pathText(took.Path) != pathText(made.Path) || took.Draws != 0 {
			c.Fatalf("Take of %d's by %d: got %s, %d", i, me, madeText(took), e)
		}
		c.keys[me] = took.Keys
	}
	c.tree = made.Tree
	c.have()
}

// have holds what the members have against what they are to have: just the keys of the nodes that they hold, each once.
func (c *crowd) have() {
	c.Helper()
	for me, keys := range c.keys {
		var nodes []int
		for _, s := range keys {
			if c.tree[s.Node].Enc == c.pub(s.Sk) {
				nodes = append(nodes, s.Node)
			}
		}
		var want []int
		for x := range c.tree {
			if x == 2*me || x%2 == 1 && holds(c.tree, me, x) {
				want = append(want, x)
			}
		}
		slices.Sort(nodes)
		if len(nodes) != len(keys) || !slices.Equal(nodes, want) {
			c.Fatalf("%s: %d has the keys of %v, not of %v", text(c.tree), me, nodes, want)
		}
	}
}

// agrees holds a path that is not taken against the model's.
func (c *crowd) agrees(i int, fresh ...int) {
	c.Helper()
	aad := c.drawn()
	made := c.makes(c.tree, i, c.tree[2*i], c.drawn(), 1<<40, aad, fresh...)
	for me, keys := range c.keys {
		if me != i && !slices.Contains(fresh, me) && me%5 == i%5 {
			c.takes(c.tree, i, made, me, path.Keys(c.a, c.tree, keys), aad, fresh...)
		}
	}
}

// Members come, go and make paths in turn, in trees of 1, 2, 4 and more leaves.
func TestComeAndGo(t *testing.T) {
	for seed, most := range map[draws]int{1: 2, 2: 3, 3: 5, 4: 9, 5: 17, 6: 33} {
		d, c, greatest := seed, gathered(t), 0
		for range 100 {
			var fresh []int
			for range d.below(3) {
				if len(c.keys) < most {
					fresh = append(fresh, c.comes())
				}
			}
			l := ratchet.Members(c.tree)
			i := l[d.below(len(l))]
			if d.below(3) == 0 && len(l) > 1 {
				c.goes(i)
				fresh = slices.DeleteFunc(fresh, func(f int) bool { return f == i })
				continue
			}
			if d.below(4) == 0 {
				c.agrees(i)
			}
			// They come with the path, or as others: then it is sealed to them, too.
			fresh = slices.DeleteFunc(fresh, func(f int) bool { return f == i })
			if d.below(2) == 0 {
				fresh = nil
			}
			greatest = max(greatest, len(c.keys))
			c.renews(i, fresh...)
			if c.a.Len() > api.MaxTerms*3/4 {
				break
			}
		}
		if greatest < min(most, 9) {
			t.Errorf("at most %d of %d members", greatest, most)
		}
	}
}

// Each member in turn makes a path, till there is a Parent everywhere; then some come, and stay Unmerged at several levels, and some go.
func TestAllInTurn(t *testing.T) {
	for _, n := range []int{1, 2, 3, 4, 5, 8, 13, 16} {
		c := gathered(t)
		for range n - 1 {
			c.comes()
		}
		for _, i := range ratchet.Members(c.tree) {
			c.renews(i)
		}
		if n >= 8 {
			c.goes(2)
			c.goes(5)
			c.renews(7)
			for range 4 {
				c.comes()
			}
			c.agrees(7)
			c.agrees(1)
			c.renews(0)
			c.agrees(5, 2)
			c.renews(2)
		}
		for _, i := range ratchet.Members(c.tree) {
			c.renews(i)
			// Now one seal is enough for each node, once all have made one.
		}
		made := c.makes(c.tree, 0, c.tree[0], c.drawn(), 1<<40, c.drawn())
		if n&(n-1) == 0 && n < 8 && made.Draws != len(made.Path.Nodes) {
			t.Errorf("%d: got %d draws", n, made.Draws)
		}
	}
}

// A great group.
func TestGreatGroup(t *testing.T) {
	c := gathered(t)
	for range 255 {
		c.comes()
	}
	c.renews(200)
	c.goes(201)
	c.goes(7)
	c.renews(100)
	c.renews(c.comes())
	c.comes()
	c.agrees(200)
	if len(c.keys) != 256 {
		t.Errorf("got %d", len(c.keys))
	}
}

// A tree that is vouched for stays so. One that is not comes to be so, where the fault was on the way.
func TestVouchedFor(t *testing.T) {
	m := start(t)
	u, aad := m.full(4), m.atom(99)
	made := m.makes(u, 2, u[4], m.atom(60), 70, aad)
	made = m.makes(made.Tree, 0, u[0], m.atom(61), 80, aad)
	for _, i := range []int{0, 1, 2, 3} {
		v := m.makes(made.Tree, i, u[0], m.atom(62), 90, aad).Tree
		if is, e := treehash.Valid(m.a, v); !is || e != api.OK {
			t.Errorf("%d: got %v, %d", i, is, e)
		}
		w := copied(made.Tree)
		w[4].Hash = aad
		v = m.makes(w, i, u[0], m.atom(62), 90, aad).Tree
		if is, e := treehash.Valid(m.a, v); is != (i >= 2) || e != api.OK {
			t.Errorf("%d: got %v, %d", i, is, e)
		}
	}
}

// What is handed in stays as it was, and what is behind the ends of it, too.
func TestHandedIn(t *testing.T) {
	m := start(t)
	aad := m.atom(99)
	whole := append(m.rich(), m.rich()...)
	whole[7].Unmerged = []int{3, 6, 99, 99}[:2]
	u, l := whole[:15], m.leaf(0)
	l.Unmerged = []int{88, 88}[:0]
	fresh := []int{6, 3, 3, -1, 88, 88}
	made, e := path.Make(m.a, u, 0, l, m.atom(60), 70, aad, fresh[:4]...)
	if e != api.OK {
		t.Fatalf("got %d", e)
	}
	p := copiedPath(made.Path)
	p.Leaf.Unmerged = []int{77, 77}[:0]
	nodes := append(p.Nodes, api.PNode{Enc: 5, Seals: []int{5}})
	nodes[0].Seals = append(nodes[0].Seals, 66, 66)
	seals := nodes[0].Seals
	nodes[0].Seals = seals[:1]
	p.Nodes = nodes[:3]
	keys := append(m.held(u, 1), api.Secret{Node: 1, Sk: 1}, api.Secret{Node: 2, Sk: 2})
	was := func() string {
		return text(whole) + pathText(api.Path{Leaf: p.Leaf, Nodes: nodes}) + keysText(keys) + numbers(whole[7].Unmerged[:4]...) + numbers(fresh...) + numbers(seals...) + numbers(l.Unmerged[:2]...) + numbers(p.Leaf.Unmerged[:2]...)
	}
	before := was()
	path.Make(m.a, u, 0, l, m.atom(60), 70, aad, fresh[:4]...)
	took, e := path.Take(m.a, u, 0, p, 1, keys[:4], aad, fresh[:4]...)
	if f := path.Shape(m.a, u, 0, p, fresh[:4]...); e != api.OK || f != api.OK {
		t.Fatalf("got %d, %d", e, f)
	}
	path.Keys(m.a, u, keys[:3])
	if was() != before {
		t.Errorf("got %s, not %s", was(), before)
	}
	// Whoever writes into what is answered writes into nothing else.
	scribble(made)
	scribble(took)
	if was() != before {
		t.Errorf("got %s, not %s", was(), before)
	}
}

// scribble writes into all of m, and behind its ends.
func scribble(m path.Made) {
	lists := [][]int{m.Path.Leaf.Unmerged}
	for _, n := range m.Path.Nodes {
		lists = append(lists, n.Seals)
	}
	for x := range m.Tree {
		lists = append(lists, m.Tree[x].Unmerged)
		m.Tree[x] = api.TNode{Kind: 9}
	}
	for _, l := range lists {
		for k := range l[:cap(l)] {
			l[:cap(l)][k] = -9
		}
	}
	for k := range m.Path.Nodes[:cap(m.Path.Nodes)] {
		m.Path.Nodes[:cap(m.Path.Nodes)][k].Enc = -9
	}
	for k := range m.Keys[:cap(m.Keys)] {
		m.Keys[:cap(m.Keys)][k].Sk = -9
	}
	for x := range m.Tree[:cap(m.Tree)] {
		m.Tree[:cap(m.Tree)][x].Id = -9
	}
}

// What was answered once is not changed later, whatever is written into what was handed in, or into another answer.
func TestAnswersAreOnesOwn(t *testing.T) {
	m := start(t)
	aad := m.atom(99)
	u, keys := m.rich(), m.held(m.rich(), 7)
	made, _ := path.Make(m.a, u, 0, u[0], m.atom(60), 70, aad)
	took, _ := path.Take(m.a, u, 0, made.Path, 7, keys, aad)
	again, _ := path.Take(m.a, u, 0, made.Path, 7, keys, aad)
	first, second := madeText(made), madeText(took)
	scribble(again)
	if madeText(made) != first || madeText(took) != second {
		t.Errorf("got %s, %s", madeText(made), madeText(took))
	}
	for x := range u {
		for k := range u[x].Unmerged {
			u[x].Unmerged[k] = 0
		}
		u[x] = api.TNode{}
	}
	for k := range keys {
		keys[k] = api.Secret{}
	}
	if madeText(made) != first || madeText(took) != second {
		t.Errorf("got %s, %s", madeText(made), madeText(took))
	}
	// The tree's leaf, and its nodes, are not the path's.
	made.Tree[0].Id, made.Tree[1].Enc = -1, -1
	if made.Path.Leaf.Id == -1 || made.Path.Nodes[0].Enc == -1 {
		t.Errorf("got %s", madeText(made))
	}
	scribble(made)
	if madeText(took) != second {
		t.Errorf("got %s", madeText(took))
	}
	// The same once more, of the same arguments.
	if made, e := path.Make(m.a, m.rich(), 0, m.rich()[0], m.atom(60), 70, aad); e != api.OK || madeText(made) != first {
		t.Errorf("got %s, %d", madeText(made), e)
	}
}
