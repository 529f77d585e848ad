package treehash_test

import (
	"slices"
	"strconv"
	"testing"

	"cassock/api"
	"cassock/term"
	"cassock/treehash"
)

func refusedNode(t *testing.T, why string, a *term.Arena, u []api.TNode, x int, without ...int) {
	t.Helper()
	n := a.Len()
	if y, e := treehash.Hash(a, u, x, without...); y != 0 || e != api.ErrArg {
		t.Errorf("%s: Hash of %d: got %d, %d", why, x, y, e)
	}
	if a.Len() != n {
		t.Errorf("%s: Hash of %d made terms", why, x)
	}
}

func refusedChild(t *testing.T, why string, a *term.Arena, u []api.TNode, x, child int) {
	t.Helper()
	n := a.Len()
	if y, e := treehash.Vouch(a, u, x, child); y != 0 || e != api.ErrArg {
		t.Errorf("%s: Vouch of %d, %d: got %d, %d", why, x, child, y, e)
	}
	if a.Len() != n {
		t.Errorf("%s: Vouch of %d, %d made terms", why, x, child)
	}
}

func refusedTree(t *testing.T, why string, a *term.Arena, u []api.TNode) {
	t.Helper()
	if is, e := treehash.Valid(a, u); is || e != api.ErrArg {
		t.Errorf("%s: Valid: got %v, %d", why, is, e)
	}
}

// outside are numbers that are none from 0 on, below n. Doubled, or cut to 32 bits, some are such ones again.
func outside(n int) []int {
	l := []int{-1, -2, -3, -n, -n - 1, -255, -256, -510, -511, -1 << 32, -1 << 62, -1<<62 - 1, n, n + 1, n + 2, 2*n - 2, 2*n - 1, 2 * n, 256, 510, 511, 512, 1023, 1 << 31, 1 << 32, 1<<32 + 1, 1 << 62, 1<<62 + 1, greatest - 1, greatest}
	for k := range 8 {
		l = append(l, least+k, 1<<62+k)
	}
	return slices.DeleteFunc(l, func(x int) bool { return x >= 0 && x < n })
}

func TestNoSuchNode(t *testing.T) {
	a := arena(1100)
	for _, n := range counts() {
		u, why := grown(n), strconv.Itoa(n)+" leaves"
		if n > 1 {
			u[n-1] = parent(n - 1)
		}
		for _, x := range outside(2*n - 1) {
			refusedNode(t, why, a, u, x)
			refusedNode(t, why, a, u, x, 0, x, 1)
			refusedChild(t, why, a, u, x, 0)
			refusedChild(t, why, a, u, x, x)
			refusedChild(t, why, a, u, n-1, x)
		}
	}
}

func TestNoSuchChild(t *testing.T) {
	a, u := arena(room), rich()
	for _, c := range []struct {
		why      string
		x, child int
	}{
		{"a leaf's node", 0, 0}, {"a leaf's node", 2, 0}, {"a leaf's node", 0, 1}, {"a leaf's node", 0, -1}, {"a leaf's node", 6, 5}, {"a Blank leaf", 4, 5}, {"a Blank leaf", 4, 4},
		{"a Blank one", 5, 4}, {"a Blank one", 5, 6}, {"a Blank one", 11, 9}, {"a Blank one", 11, 13}, {"a Blank one", 11, 7},
		{"itself", 1, 1}, {"itself", 3, 3}, {"itself", 7, 7}, {"itself", 13, 13},
		{"a child's child", 3, 0}, {"a child's child", 3, 2}, {"a child's child", 3, 4}, {"a child's child", 3, 6}, {"a child's child", 7, 1}, {"a child's child", 7, 5}, {"a child's child", 7, 9}, {"a child's child", 7, 13}, {"a child's child's", 7, 0}, {"a child's child's", 7, 14},
		{"the one above", 1, 3}, {"the one above", 3, 7}, {"the one above", 13, 11}, {"the one beside", 3, 11}, {"the one beside", 1, 5}, {"the one beside", 9, 13},
		{"another's child", 1, 4}, {"another's child", 1, 6}, {"another's child", 9, 12}, {"another's child", 9, 14}, {"another's child", 3, 9}, {"another's child", 3, 13}, {"another's child", 13, 10}, {"another's child", 7, 2},
	} {
		refusedChild(t, c.why, a, u, c.x, c.child)
	}
	// All pairs.
	for x := range u {
		for child := range u {
			left, right := -1, -1
			if p := at(u, x); !p.leaf() && u[x].Kind == api.Parent {
				l, r := p.halves()
				left, right = l.x, r.x
			}
			if child != left && child != right {
				refusedChild(t, "a pair", a, u, x, child)
			} else if _, e := treehash.Vouch(a, u, x, child); e != api.OK {
				t.Errorf("Vouch of %d, %d: got %d", x, child, e)
			}
		}
	}
}

// trees are such as may not be.
func trees() map[string][]api.TNode {
	l := map[string][]api.TNode{"nil": nil, "empty": {}, "nobody": among(1), "nobody of 4": among(4), "nobody on the right": among(4, 0, 1), "a root alone": {{}, parent(1), {}}}
	for _, n := range []int{2, 4, 5, 6, 8, 9, 11, 13, 14, 16, 29, 510, 512, 513, 1023} {
		u := make([]api.TNode, n)
		for x := 0; x < n; x += 2 {
			u[x] = leaf(x / 2)
		}
		l[strconv.Itoa(n)+" nodes"] = u
	}
	for name, change := range map[string]func(u []api.TNode){
		"a Parent at a leaf's":     func(u []api.TNode) { u[0] = parent(1) },
		"a Leaf at a parent's":     func(u []api.TNode) { u[1] = leaf(1) },
		"a Leaf at the root":       func(u []api.TNode) { u[7] = leaf(1) },
		"a kind 3":                 func(u []api.TNode) { u[2].Kind = 3 },
		"a kind -1":                func(u []api.TNode) { u[3].Kind = -1 },
		"a Blank one with a name":  func(u []api.TNode) { u[4].Id = 1 },
		"a Blank one with an Enc":  func(u []api.TNode) { u[11].Enc = 1 },
		"a Blank one with a leaf":  func(u []api.TNode) { u[5].Unmerged = []int{3} },
		"a Leaf with a leaf":       func(u []api.TNode) { u[0].Unmerged = []int{0} },
		"a Parent with a name":     func(u []api.TNode) { u[13].Id = 1 },
		"a Parent with a Sig":      func(u []api.TNode) { u[9].Sig = 1 },
		"falling":                  func(u []api.TNode) { u[7].Unmerged = []int{6, 3} },
		"twice":                    func(u []api.TNode) { u[7].Unmerged = []int{3, 3, 6} },
		"of no leaf":               func(u []api.TNode) { u[7].Unmerged = []int{3, 6, 8} },
		"of a number below 0":      func(u []api.TNode) { u[7].Unmerged = []int{-1, 3, 6} },
		"of a great number":        func(u []api.TNode) { u[7].Unmerged = []int{3, 6, greatest} },
		"of the least number":      func(u []api.TNode) { u[1].Unmerged = []int{least} },
		"of a leaf elsewhere":      func(u []api.TNode) { u[9].Unmerged = []int{0} },
		"of a Blank leaf":          func(u []api.TNode) { u[3].Unmerged = []int{2} },
		"not of the one below":     func(u []api.TNode) { u[3].Unmerged = nil },
		"not of the one far below": func(u []api.TNode) { u[7].Unmerged = []int{0, 3, 6} },
	} {
		u := rich()
		change(u)
		l[name] = u
	}
	return l
}

func TestNoSuchTree(t *testing.T) {
	a := arena(3000)
	for why, u := range trees() {
		was := text(u)
		refusedTree(t, why, a, u)
		for _, x := range []int{0, 1, 2, 3, 5, 7, len(u) / 2, len(u) - 1, len(u), -1, greatest, least} {
			refusedNode(t, why, a, u, x)
			refusedNode(t, why, a, u, x, 0, 3, 6)
			for _, child := range []int{0, 2, 3, 11, x - 1, x + 1, x} {
				refusedChild(t, why, a, u, x, child)
			}
		}
		if text(u) != was {
			t.Errorf("%s: it is %s now", why, text(u))
		}
	}
}

// Each field of each node that is not Blank has to be a term, wherever it is asked.
func TestNoSuchTerm(t *testing.T) {
	a := arena(room)
	good := rich()
	for x := range good {
		for name, field := range map[string]func(l *api.TNode) *int{
			"Id": func(l *api.TNode) *int { return &l.Id }, "Enc": func(l *api.TNode) *int { return &l.Enc },
			"Sig": func(l *api.TNode) *int { return &l.Sig }, "Hash": func(l *api.TNode) *int { return &l.Hash },
		} {
			if good[x].Kind == api.Blank || good[x].Kind == api.Parent && (name == "Id" || name == "Sig") {
				continue
			}
			for _, v := range []int{-1, -2, -room, a.Len(), a.Len() + 1, 1 << 31, 1 << 32, 1<<32 + 5, -1 << 32, greatest, least, least + 1} {
				u := copied(good)
				*field(&u[x]) = v
				mustBe(t, u)
				why := name + " of " + strconv.Itoa(x) + " is " + strconv.Itoa(v)
				refusedTree(t, why, a, u)
				for y := range u {
					refusedNode(t, why, a, u, y)
				}
				refusedNode(t, why, a, u, x, 0, 1, 2, 3, 4, 5, 6, 7)
				refusedChild(t, why, a, u, 1, 0)
				refusedChild(t, why, a, u, 7, 11)
				refusedChild(t, why, a, u, 3, 1)
			}
			// The last term is one.
			u := copied(good)
			*field(&u[x]) = a.Len() - 1
			if _, e := treehash.Hash(a, u, 7); e != api.OK {
				t.Errorf("%s of %d: got %d", name, x, e)
			}
			a = arena(room)
		}
	}
}

func TestNoArena(t *testing.T) {
	for _, a := range []*term.Arena{nil, term.New(), {}} {
		refusedNode(t, "no terms", a, grown(1), 0)
		refusedNode(t, "no terms", a, []api.TNode{{Kind: api.Leaf}}, 0)
		refusedTree(t, "no terms", a, grown(2))
		refusedChild(t, "no terms", a, rich(), 1, 0)
	}
	if x, e := treehash.None(nil); x != 0 || e != api.ErrArg {
		t.Errorf("got %d, %d", x, e)
	}
}

// More Unmerged than a List may have parts, at x, deep under it, or where x has not got them.
func TestTooManyUnmerged(t *testing.T) {
	a, u := arena(1100), grown(256)
	var l []int
	for i := range 65 {
		l = append(l, i)
	}
	u[127], u[383] = parent(1, l...), parent(2)
	u[255] = parent(3)
	mustBe(t, u)
	refusedNode(t, "65", a, u, 127)
	refusedNode(t, "65 under it", a, u, 255)
	refusedNode(t, "65 of others", a, u, 127, 65, 66, -1)
	refusedChild(t, "65 in the other", a, u, 255, 383)
	for name, e := range map[string]api.Errno{"64": second(treehash.Hash(a, u, 127, 17)), "64 under it": second(treehash.Hash(a, u, 255, 64)), "none of the other": second(treehash.Hash(a, u, 383)), "a leaf": second(treehash.Hash(a, u, 0)), "below it": second(treehash.Hash(a, u, 63)), "the other has none": second(treehash.Vouch(a, u, 255, 127)), "those below have none": second(treehash.Vouch(a, u, 127, 63))} {
		if e != api.OK {
			t.Errorf("%s: got %d", name, e)
		}
	}
	// The root has one of them, too: 64 are left.
	u[255].Unmerged = []int{64}
	mustBe(t, u)
	refusedNode(t, "65 under it", a, u, 255)
	if x, e := treehash.Vouch(a, u, 255, 383); e != api.OK || x == 0 {
		t.Errorf("got %d, %d", x, e)
	}
}

func second(_ int, e api.Errno) api.Errno { return e }

// In an arena that is full, what is there is told, and what is not there is too much.
func TestFullArena(t *testing.T) {
	a, u := arena(room), rich()
	m := model{t, a}
	there := m.hash(u, 3)
	byLeft, byRight := m.vouches(u, 3)
	v := copied(u)
	v[3].Unmerged, v[7] = nil, api.TNode{}
	v[9], v[13] = api.TNode{}, api.TNode{}
	v[2].Hash, _ = m.vouches(v, 3)
	v[1] = api.TNode{}
	w := copied(v)
	// Its arena is full ahead of what 3's right child says.
	v[2].Hash, _ = m.vouches(v, 3)
	for n := room; a.Len() < api.MaxTerms; n++ {
		m.make(api.Node{Op: api.Atom, N: n})
	}
	if x, e := treehash.Hash(a, u, 3); x != there || e != api.OK {
		t.Errorf("got %d, %d", x, e)
	}
	if x, e := treehash.Vouch(a, u, 3, 1); x != byLeft || e != api.OK {
		t.Errorf("got %d, %d", x, e)
	}
	if x, e := treehash.Vouch(a, u, 3, 5); x != byRight || e != api.OK {
		t.Errorf("got %d, %d", x, e)
	}
	if x, e := treehash.None(a); x == 0 || e != api.OK {
		t.Errorf("got %d, %d", x, e)
	}
	valid(t, a, among(4, 0, 3), true)
	valid(t, a, v, true)
	for name, e := range map[string]api.Errno{"the root": second(treehash.Hash(a, u, 7)), "a leaf off": second(treehash.Hash(a, u, 3, 0)), "a leaf": second(treehash.Hash(a, u, 8)), "what 7 is told": second(treehash.Vouch(a, u, 7, 3))} {
		if e != api.ErrLong {
			t.Errorf("%s: got %d", name, e)
		}
	}
	w[3].Enc = 5
	if is, e := treehash.Valid(a, w); is || e != api.ErrLong {
		t.Errorf("got %v, %d", is, e)
	}
	// What may not be is told first.
	refusedNode(t, "no node", a, u, 15)
	refusedChild(t, "no child", a, u, 7, 7)
	u[8].Sig = api.MaxTerms
	refusedTree(t, "no term", a, u)
	refusedNode(t, "no term", a, u, 7)
}

// Also one that runs full on the way.
func TestNearlyFullArena(t *testing.T) {
	u, a := rich(), arena(room)
	treehash.Hash(a, u, 7)
	needs := a.Len() - room
	for _, more := range []int{0, 1, 2, 3, needs / 2, needs - 2, needs - 1} {
		a := arena(api.MaxTerms - more)
		for range 2 {
			if x, e := treehash.Hash(a, u, 7); x != 0 || e != api.ErrLong {
				t.Errorf("%d more: got %d, %d", more, x, e)
			}
		}
	}
	a = arena(api.MaxTerms - needs)
	x, e := treehash.Hash(a, u, 7)
	if y, f := treehash.Hash(a, u, 7); e != api.OK || f != api.OK || x != y || x != (model{t, a}).hash(u, 7) {
		t.Errorf("got %d, %d, then %d, %d", x, e, y, f)
	}
}

// What would be made of a term that can't be made is no answer, if it is there, too.
func TestFullArenaThatHasOthers(t *testing.T) {
	a := arena(room)
	m := model{t, a}
	m.hashed(m.text("leaf"), m.text("0"), 0)
	m.hashed(m.text("node"), m.text(""), 0, 0)
	m.hashed(m.text("vouch"), 102, 103, 0)
	for n := room; a.Len() < api.MaxTerms; n++ {
		m.make(api.Node{Op: api.Atom, N: n})
	}
	u := grown(2)
	for x := range u {
		if y, e := treehash.Hash(a, u, x); y != 0 || e != api.ErrLong {
			t.Errorf("Hash of %d: got %d, %d", x, y, e)
		}
	}
	u[1] = parent(1)
	if y, e := treehash.Vouch(a, u, 1, 0); y != 0 || e != api.ErrLong {
		t.Errorf("got %d, %d", y, e)
	}
	if is, e := treehash.Valid(a, u); is || e != api.ErrLong {
		t.Errorf("got %v, %d", is, e)
	}
}

// Too many Unmerged are told, and not that the arena is full.
func TestTooManyInFullArena(t *testing.T) {
	a, u := arena(api.MaxTerms), grown(256)
	var l []int
	for i := range 65 {
		l = append(l, 128+i)
	}
	u[383], u[255] = parent(1, l...), parent(2)
	mustBe(t, u)
	refusedNode(t, "65", a, u, 255)
	refusedNode(t, "65", a, u, 383)
	refusedChild(t, "65", a, u, 255, 127)
	if _, e := treehash.Vouch(a, u, 255, 383); e != api.ErrLong {
		t.Errorf("got %d", e)
	}
	if x, e := treehash.None(a); x != 0 || e != api.ErrLong {
		t.Errorf("got %d, %d", x, e)
	}
}
