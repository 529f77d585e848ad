package ratchet_test

import (
	"slices"
	"strconv"
	"testing"

	"cassock/api"
	"cassock/ratchet"
)

// leaf is a member's, in which each part tells its name.
func leaf(id int) api.TNode {
	return api.TNode{Kind: api.Leaf, Id: id, Enc: 1000 + id, Sig: 2000 + id, Hash: 3000 + id}
}

func parent(enc int, unmerged ...int) api.TNode {
	return api.TNode{Kind: api.Parent, Enc: enc, Hash: 5000 + enc, Unmerged: unmerged}
}

// grown is a tree of the members 1 to n.
func grown(t *testing.T, n int) []api.TNode {
	t.Helper()
	u, e := ratchet.New(leaf(1))
	for i := 1; i < n && e == api.OK; i++ {
		u, _, e = ratchet.Add(u, leaf(i+1))
	}
	if e != api.OK {
		t.Fatalf("a tree of %d: got %d", n, e)
	}
	return u
}

// rich is a tree of 8 leaves: member 2 is gone, 3 is Unmerged at two levels, and 6 at one.
func rich() []api.TNode {
	u := make([]api.TNode, 15)
	for _, i := range []int{0, 1, 3, 4, 5, 6, 7} {
		u[2*i] = leaf(i + 1)
	}
	u[1], u[3], u[7] = parent(1), parent(3, 3), parent(7, 3, 6)
	u[9], u[13] = parent(9), parent(13, 6)
	return u
}

func one() []api.TNode { return []api.TNode{leaf(1)} }

// The chapter's examples.
func TestExamples(t *testing.T) {
	u, e := ratchet.New(leaf(1))
	u, i, f := ratchet.Add(u, leaf(2))
	u, k, g := ratchet.Add(u, leaf(3))
	if e != api.OK || f != api.OK || g != api.OK || i != 1 || k != 2 || len(u) != 7 || !slices.Equal(ratchet.Members(u), []int{0, 1, 2}) {
		t.Errorf("got %v, %d, %d", u, i, k)
	}
	if v, e := ratchet.Remove(u, 2); len(v) != 3 || e != api.OK || !slices.Equal(ratchet.Members(v), []int{0, 1}) {
		t.Errorf("got %v, %d", v, e)
	}
	v, e := ratchet.Remove(u, 0)
	v, i, f = ratchet.Add(v, leaf(9))
	if e != api.OK || f != api.OK || i != 0 || v[0].Id != 9 || len(v) != 7 {
		t.Errorf("got %v, %d", v, i)
	}
}

// noLeaves are nodes that no member may have.
func noLeaves() []api.TNode {
	l := []api.TNode{{}, parent(5), {Kind: api.Blank, Id: 1, Enc: 2, Sig: 3}}
	for _, kind := range []int{-1, 3, 4, 256, 257, 1<<32 + 1, greatest, least, least + 1} {
		l = append(l, api.TNode{Kind: kind, Id: 1})
	}
	for _, unmerged := range [][]int{{0}, {1}, {0, 1}, {-1}, {least}} {
		k := leaf(1)
		k.Unmerged = unmerged
		l = append(l, k)
	}
	return l
}

// leaves are such as a member may have: what their terms are is not asked here.
func leaves() []api.TNode {
	empty := leaf(4)
	empty.Unmerged = []int{}
	return []api.TNode{leaf(0), leaf(7), {Kind: api.Leaf}, {Kind: api.Leaf, Id: least, Enc: -1, Sig: greatest, Hash: 1 << 40}, empty}
}

func TestNew(t *testing.T) {
	for _, l := range leaves() {
		u, e := ratchet.New(l)
		if text(u) != text([]api.TNode{l}) || e != api.OK || ratchet.Check(u) != api.OK {
			t.Errorf("%v: got %v, %d", l, u, e)
		}
	}
	for _, l := range noLeaves() {
		if u, e := ratchet.New(l); len(u) > 0 || e != api.ErrArg {
			t.Errorf("%v: got %v, %d", l, u, e)
		}
	}
}

// No one comes in, and no one is renewed, with what is no leaf; that is told ahead of what else is wrong.
func TestNoLeaf(t *testing.T) {
	for _, u := range [][]api.TNode{one(), grown(t, 2), rich(), grown(t, 256)} {
		for _, l := range noLeaves() {
			if v, at, e := ratchet.Add(u, l); len(v) > 0 || at != 0 || e != api.ErrArg {
				t.Errorf("Add of %v: got %d nodes, %d, %d", l, len(v), at, e)
			}
			for _, i := range []int{0, 2, 7, 256, -1, greatest, least} {
				if v, e := ratchet.Update(u, i, l); len(v) > 0 || e != api.ErrArg {
					t.Errorf("Update of %d, %v: got %d nodes, %d", i, l, len(v), e)
				}
			}
		}
		for _, l := range leaves() {
			if v, e := ratchet.Update(u, 0, l); text(v[:1]) != text([]api.TNode{l}) || e != api.OK {
				t.Errorf("Update of %v: got %d", l, e)
			}
		}
	}
}

// Of 1 to 256 members: each has the first leaf that is Blank, and a full tree is doubled, but for one of 256.
func TestGrow(t *testing.T) {
	u, e := ratchet.New(leaf(1))
	for i := 1; i < 256 && e == api.OK; i++ {
		// The root of a full tree stays what it is; the one above it is Blank.
		if slices.Contains(counts(), i) && i > 1 {
			u[i-1] = parent(i)
		}
		was, at := u, 0
		u, at, e = ratchet.Add(u, leaf(i+1))
		if at != i || u[2*i].Id != i+1 || text(u[:len(was)]) != text(was) && !(len(u) == len(was)) {
			t.Fatalf("%d: got %d", i, at)
		}
		if want := slices.IndexFunc(counts(), func(n int) bool { return n > i }); len(u) != 2*counts()[want]-1 || ratchet.Check(u) != api.OK {
			t.Fatalf("%d: got %d nodes", i, len(u))
		}
	}
	if e != api.OK || len(u) != 511 || u[255].Kind != api.Blank || !slices.Equal(u[127].Unmerged, nil) || len(u[1].Unmerged) != 0 || len(u[3].Unmerged) != 0 {
		t.Errorf("got %d nodes, %v, %d", len(u), u[255], e)
	}
	if v, at, e := ratchet.Add(u, leaf(300)); len(v) > 0 || at != 0 || e != api.ErrLong {
		t.Errorf("got %d nodes, %d, %d", len(v), at, e)
	}
	// Where one of them goes, there is room again.
	for _, i := range []int{0, 100, 255} {
		v, e := ratchet.Remove(u, i)
		w, at, f := ratchet.Add(v, leaf(300))
		if e != api.OK || f != api.OK || at != i || w[2*i].Id != 300 || len(w) != 511 {
			t.Errorf("%d: got %d, %d, %d", i, at, e, f)
		}
	}
}

// The old root's new parent is Blank, and so is the root's Unmerged left as it is.
func TestDoubled(t *testing.T) {
	u := grown(t, 4)
	u[1], u[3], u[5] = parent(1), parent(3, 3), parent(5, 3)
	v, at, e := ratchet.Add(u, leaf(5))
	want := append(copied(u), api.TNode{}, leaf(5), api.TNode{}, api.TNode{}, api.TNode{}, api.TNode{}, api.TNode{}, api.TNode{})
	if at != 4 || e != api.OK || text(v) != text(want) {
		t.Errorf("got %v, %d, %d", v, at, e)
	}
}

// One who comes in is Unmerged of all that stand above it, in its place among the others.
func TestAddUnmerged(t *testing.T) {
	u, at, e := ratchet.Add(rich(), leaf(9))
	want := rich()
	want[4], want[3].Unmerged, want[7].Unmerged = leaf(9), []int{2, 3}, []int{2, 3, 6}
	if at != 2 || e != api.OK || text(u) != text(want) {
		t.Errorf("got %v, %d, %d", u, at, e)
	}
}

// The nodes above one who goes, or is renewed, are blank; all others stay.
func TestBlanked(t *testing.T) {
	want := rich()
	want[6], want[3], want[7] = api.TNode{}, api.TNode{}, api.TNode{}
	if u, e := ratchet.Remove(rich(), 3); text(u) != text(want) || e != api.OK {
		t.Errorf("Remove: got %v, %d", u, e)
	}
	want[6] = leaf(77)
	if u, e := ratchet.Update(rich(), 3, leaf(77)); text(u) != text(want) || e != api.OK {
		t.Errorf("Update: got %v, %d", u, e)
	}
}

// A tree is halved once, or more than once, or not at all, when the last one of its right half goes.
func TestTruncated(t *testing.T) {
	for _, c := range []struct {
		members []int
		leaves  int
		gone    int
		left    int
	}{{[]int{0, 1}, 2, 1, 1}, {[]int{0, 1}, 2, 0, 2}, {[]int{1, 2}, 4, 2, 2}, {[]int{0, 3}, 4, 3, 1}, {[]int{0, 2, 3}, 4, 3, 4}, {[]int{0, 2, 3}, 4, 2, 4}, {[]int{1, 4}, 8, 4, 2}, {[]int{0, 7}, 8, 7, 1}, {[]int{3, 7}, 8, 7, 4}, {[]int{0, 255}, 256, 255, 1}, {[]int{0, 255}, 256, 0, 256}, {[]int{1, 255}, 256, 255, 2}, {[]int{127, 128}, 256, 128, 128}, {[]int{63, 128}, 256, 128, 64}, {[]int{128, 255}, 256, 255, 256}} {
		u := make([]api.TNode, 2*c.leaves-1)
		for _, i := range c.members {
			u[2*i] = leaf(i + 1)
		}
		if e := ratchet.Check(u); e != api.OK {
			t.Errorf("%v: got %d", c, e)
		}
		v, e := ratchet.Remove(u, c.gone)
		if len(v) != 2*c.left-1 || e != api.OK || ratchet.Check(v) != api.OK {
			t.Errorf("%v: got %d nodes, %d", c, len(v), e)
		}
		for _, i := range ratchet.Members(v) {
			if text(v[2*i:2*i+1]) != text([]api.TNode{leaf(i + 1)}) {
				t.Errorf("%v: got %v", c, v[2*i])
			}
		}
	}
}

// The only one can't go, wherever it stands.
func TestRemoveTheOnlyOne(t *testing.T) {
	if u, e := ratchet.Remove(one(), 0); len(u) > 0 || e != api.ErrArg {
		t.Errorf("got %v, %d", u, e)
	}
	for _, n := range counts()[1:] {
		for _, i := range []int{n / 2, n - 1} {
			u := make([]api.TNode, 2*n-1)
			u[2*i] = leaf(1)
			if v, e := ratchet.Remove(u, i); len(v) > 0 || e != api.ErrArg {
				t.Errorf("%d of %d: got %d nodes, %d", i, n, len(v), e)
			}
			if v, e := ratchet.Update(u, i, leaf(2)); len(v) != len(u) || v[2*i].Id != 2 || e != api.OK {
				t.Errorf("%d of %d: got %d nodes, %d", i, n, len(v), e)
			}
		}
	}
}

// noMembers are numbers of no leaf of a tree of n. Doubled, some are numbers of nodes again.
func noMembers(n int) []int {
	return []int{-1, -2, -n, -n - 1, -255, -256, least, least + 1, least + 2, -1 << 62, -1 << 32, n, n + 1, 2*n - 2, 2*n - 1, 2 * n, 256, 511, 1 << 32, 1<<32 + 1, 1 << 62, 1<<62 + 1, greatest - 1, greatest}
}

func TestNoMember(t *testing.T) {
	for _, n := range counts() {
		u := grown(t, n)
		for _, i := range noMembers(n) {
			if i >= 0 && i < n {
				continue
			}
			if v, e := ratchet.Remove(u, i); len(v) > 0 || e != api.ErrNone {
				t.Errorf("Remove of %d of %d: got %d", i, n, e)
			}
			if v, e := ratchet.Update(u, i, leaf(1)); len(v) > 0 || e != api.ErrNone {
				t.Errorf("Update of %d of %d: got %d", i, n, e)
			}
		}
	}
	// Leaf 2 is Blank.
	if v, e := ratchet.Remove(rich(), 2); len(v) > 0 || e != api.ErrNone {
		t.Errorf("Remove: got %v, %d", v, e)
	}
	if v, e := ratchet.Update(rich(), 2, leaf(1)); len(v) > 0 || e != api.ErrNone {
		t.Errorf("Update: got %v, %d", v, e)
	}
	// That there is no such one is told even where only one is left.
	if v, e := ratchet.Remove(one(), 1); len(v) > 0 || e != api.ErrNone {
		t.Errorf("got %v, %d", v, e)
	}
}

// refused tells of a tree that may not be that no call takes it.
func refused(t *testing.T, why string, u []api.TNode) {
	t.Helper()
	if e := ratchet.Check(u); e != api.ErrArg {
		t.Errorf("%s: Check: got %d", why, e)
	}
	if v, at, e := ratchet.Add(u, leaf(1)); len(v) > 0 || at != 0 || e != api.ErrArg {
		t.Errorf("%s: Add: got %d nodes, %d, %d", why, len(v), at, e)
	}
	for _, i := range []int{0, 1, len(u) / 2, len(u), -1, greatest, least} {
		if v, e := ratchet.Remove(u, i); len(v) > 0 || e != api.ErrArg {
			t.Errorf("%s: Remove of %d: got %d nodes, %d", why, i, len(v), e)
		}
		if v, e := ratchet.Update(u, i, leaf(1)); len(v) > 0 || e != api.ErrArg {
			t.Errorf("%s: Update of %d: got %d nodes, %d", why, i, len(v), e)
		}
	}
	if l := ratchet.Members(u); len(l) > 0 {
		t.Errorf("%s: Members: got %v", why, l)
	}
	good := func([]api.TNode) ([]api.TNode, api.Errno) { return one(), api.OK }
	if v, e := ratchet.Apply(u); len(v) > 0 || e != api.ErrArg {
		t.Errorf("%s: Apply: got %d nodes, %d", why, len(v), e)
	}
	if v, e := ratchet.Apply(u, good); len(v) > 0 || e != api.ErrArg {
		t.Errorf("%s: Apply: got %d nodes, %d", why, len(v), e)
	}
}

// Of all numbers of nodes up to 1100 there are nine that a tree has.
func TestNumbersOfNodes(t *testing.T) {
	refused(t, "nil", nil)
	for n := range 1100 {
		u := make([]api.TNode, n)
		for x := 0; x < n; x += 2 {
			u[x] = leaf(x)
		}
		if slices.Contains(counts(), (n+1)/2) && n%2 == 1 {
			if e := ratchet.Check(u); e != api.OK {
				t.Errorf("%d nodes: got %d", n, e)
			}
			continue
		}
		if e := ratchet.Check(u); e != api.ErrArg {
			t.Errorf("%d nodes: got %d", n, e)
		}
		if n < 20 || n > 500 && n < 520 || n > 1015 && n < 1030 {
			refused(t, strconv.Itoa(n)+" nodes", u)
		}
	}
}

// Each part of a node that may not be there, and each kind that there is not, at each place of a tree.
func TestNodesThatMayNotBe(t *testing.T) {
	if e := ratchet.Check(rich()); e != api.OK {
		t.Fatalf("got %d", e)
	}
	blanks := []api.TNode{{Id: 1}, {Enc: 1}, {Sig: 1}, {Hash: 1}, {Id: -1}, {Enc: least}, {Sig: greatest}, {Hash: 1 << 32}, {Unmerged: []int{0}}, {Unmerged: []int{3}}, {Unmerged: []int{6}}}
	for x := range rich() {
		wrong := slices.Clone(blanks)
		for _, kind := range []int{-1, -2, 3, 4, 256, 1<<32 + 1, 1<<32 + 2, greatest, least} {
			wrong = append(wrong, api.TNode{Kind: kind}, api.TNode{Kind: kind, Enc: 1})
		}
		if x%2 == 0 {
			wrong = append(wrong, parent(1), api.TNode{Kind: api.Parent})
			for _, l := range [][]int{{0}, {x / 2}, {-1}, {least}} {
				k := leaf(1)
				k.Unmerged = l
				wrong = append(wrong, k)
			}
		} else {
			wrong = append(wrong, leaf(1), api.TNode{Kind: api.Leaf}, api.TNode{Kind: api.Parent, Id: 1}, api.TNode{Kind: api.Parent, Sig: 1}, api.TNode{Kind: api.Parent, Id: -1}, api.TNode{Kind: api.Parent, Sig: least})
		}
		for k, l := range wrong {
			u := rich()
			u[x] = l
			refused(t, strconv.Itoa(x)+", "+strconv.Itoa(k), u)
		}
	}
}

// What a list of terms is made of is not asked, nor whether two leaves are the same.
func TestNodesThatMayBe(t *testing.T) {
	for _, l := range leaves() {
		u := []api.TNode{l, {Kind: api.Parent, Enc: least, Hash: greatest, Unmerged: []int{}}, l}
		if e := ratchet.Check(u); e != api.OK {
			t.Errorf("%v: got %d", l, e)
		}
	}
	u := []api.TNode{{Unmerged: []int{}}, {Unmerged: []int{}}, leaf(1)}
	if e := ratchet.Check(u); e != api.OK {
		t.Errorf("empty ones: got %d", e)
	}
}

func TestUnmergedThatMayNotBe(t *testing.T) {
	for x, of := range map[int][][]int{
		1:  {{1, 0}, {0, 0}, {1, 1}, {2}, {0, 2}, {-1}, {-1, 0}, {3}, {6}, {least}, {greatest}, {8}, {1 << 62}, {-1 << 63}},
		3:  {{2}, {2, 3}, {3, 2}, {3, 3}, {4}, {3, 4}, {-1, 3}, {0}, {1, 3}, {0, 1, 3}, {3, 8}, {3, greatest}, {least, 3}, {1<<62 + 3}},
		7:  {{6, 3}, {3, 3, 6}, {3, 6, 6}, {2, 3, 6}, {3, 4, 6}, {0}, {1}, {3, 5}, {6, 8}, {-1, 6}, {3, 6, 7}, {6, 15}, {6, greatest}, {least, 6}, {1<<62 + 6}},
		9:  {{3}, {6}, {5, 4}, {4, 4}, {0}, {1}, {7}, {-4}},
		13: {{7, 6}, {5}, {6, 6}, {5, 6}, {6, 8}, {least + 6}},
	} {
		for k, l := range of {
			u := rich()
			u[x].Unmerged = l
			refused(t, strconv.Itoa(x)+", "+strconv.Itoa(k), u)
		}
	}
	// One below has not got what one above it has.
	for _, x := range []int{3, 13} {
		u := rich()
		u[x].Unmerged = nil
		refused(t, strconv.Itoa(x), u)
		// It may, if the one below is Blank.
		u[x] = api.TNode{}
		if e := ratchet.Check(u); e != api.OK {
			t.Errorf("%d: got %d", x, e)
		}
	}
	// And the other way round it may.
	u := rich()
	u[1].Unmerged, u[7].Unmerged, u[9].Unmerged = []int{1}, nil, []int{4, 5}
	if e := ratchet.Check(u); e != api.OK {
		t.Errorf("got %d", e)
	}
}

// Nobody is there, or nobody in the right half: the tree would be a smaller one.
func TestNobody(t *testing.T) {
	for _, n := range counts() {
		u := make([]api.TNode, 2*n-1)
		refused(t, strconv.Itoa(n)+" Blank ones", u)
		if n > 1 {
			u[n-1] = parent(1)
			refused(t, strconv.Itoa(n)+" Blank ones under a Parent", u)
		}
		for i := range n / 2 {
			u[2*i] = leaf(i)
		}
		if n > 1 {
			refused(t, "the left half of "+strconv.Itoa(n), u)
		}
		for i := n / 2; i < n; i++ {
			v := copied(u)
			v[2*i] = leaf(1)
			if e := ratchet.Check(v); e != api.OK {
				t.Errorf("and %d of %d: got %d", i, n, e)
			}
		}
	}
}

func TestMembers(t *testing.T) {
	if l := ratchet.Members(rich()); !slices.Equal(l, []int{0, 1, 3, 4, 5, 6, 7}) {
		t.Errorf("got %v", l)
	}
	if l := ratchet.Members(one()); !slices.Equal(l, []int{0}) {
		t.Errorf("got %v", l)
	}
	for _, n := range counts() {
		l := ratchet.Members(grown(t, n))
		if len(l) != n || l[0] != 0 || l[n-1] != n-1 || !slices.IsSorted(l) {
			t.Errorf("%d: got %v", n, l)
		}
	}
}

// Two trees are the same, if all nodes are, whether they may be or not.
func TestSame(t *testing.T) {
	for _, u := range [][]api.TNode{nil, {}, one(), rich(), {{}}, {{}, {}}, {{Kind: 9, Unmerged: []int{3, 1}}}} {
		if !ratchet.Same(u, copied(u)) {
			t.Errorf("%v: not the same", u)
		}
	}
	if !ratchet.Same(nil, []api.TNode{}) || ratchet.Same(nil, one()) || ratchet.Same(one(), nil) || ratchet.Same([]api.TNode{{}}, nil) || ratchet.Same(rich(), rich()[:7]) || ratchet.Same(rich()[:7], rich()) {
		t.Errorf("of another length")
	}
	for x := range rich() {
		u := rich()
		if u[x].Unmerged == nil {
			u[x].Unmerged = []int{}
			if !ratchet.Same(u, rich()) || !ratchet.Same(rich(), u) {
				t.Errorf("%d: an empty Unmerged is not the same as none", x)
			}
		}
		for k, change := range []func(l *api.TNode){
			func(l *api.TNode) { l.Kind++ },
			func(l *api.TNode) { l.Id++ },
			func(l *api.TNode) { l.Enc += 1 << 32 },
			func(l *api.TNode) { l.Sig-- },
			func(l *api.TNode) { l.Hash ^= least },
			func(l *api.TNode) { l.Unmerged = append(l.Unmerged, 7) },
			func(l *api.TNode) { l.Unmerged = append([]int{7}, l.Unmerged...) },
			func(l *api.TNode) { *l = api.TNode{Kind: 5} },
		} {
			v := rich()
			change(&v[x])
			if ratchet.Same(v, rich()) || ratchet.Same(rich(), v) {
				t.Errorf("%d: the same after the change %d", x, k)
			}
		}
	}
	u := rich()
	u[7].Unmerged = []int{6, 3}
	if ratchet.Same(u, rich()) {
		t.Errorf("the same in another order")
	}
}
