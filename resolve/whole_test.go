package resolve_test

import (
	"slices"
	"testing"

	"cassock/api"
	"cassock/ratchet"
	"cassock/resolve"
)

// small goes through the trees of 4 leaves that may be: all leaves there or not, all Unmerged.
func small(do func(u []api.TNode)) {
	var root, left, right []api.TNode
	for set := range 16 {
		root = append(root, parent(3, bits(set)...))
		if set < 4 {
			left, right = append(left, parent(1, bits(set)...)), append(right, parent(5, bits(4*set)...))
		}
	}
	for set := range 16 {
		for _, a := range append(left, api.TNode{}) {
			for _, b := range append(right, api.TNode{}) {
				for _, c := range append(root, api.TNode{}) {
					u := among(4, bits(set)...)
					u[1], u[5], u[3] = a, b, c
					if ratchet.Check(u) == api.OK {
						do(copied(u))
					}
				}
			}
		}
	}
}

// bits are the numbers of those that are 1.
func bits(set int) []int {
	var l []int
	for i := range 4 {
		if set>>i&1 == 1 {
			l = append(l, i)
		}
	}
	return l
}

func agreeNode(t *testing.T, u []api.TNode, x int) {
	t.Helper()
	l, e := resolve.Resolution(u, x)
	if !slices.Equal(l, modelResolution(u, x)) || e != api.OK {
		t.Fatalf("%s: Resolution of %d: got %v, %d", text(u), x, l, e)
	}
	follows(t, u, x, l)
}

func agreeLeaf(t *testing.T, u []api.TNode, i int) {
	t.Helper()
	nodes, others := modelPath(u, i)
	if l, m, e := resolve.Path(u, i); !slices.Equal(l, nodes) || !slices.Equal(m, others) || e != api.OK {
		t.Fatalf("%s: Path of %d: got %v, %v, %d", text(u), i, l, m, e)
	}
}

func agreeBoth(t *testing.T, u []api.TNode, i, x int) {
	t.Helper()
	if is, e := resolve.Holds(u, i, x); is != modelHolds(u, i, x) || e != api.OK {
		t.Fatalf("%s: Holds of %d, %d: got %v, %d", text(u), i, x, is, e)
	}
	want, f := modelMine(u, i, x)
	if y, e := resolve.Mine(u, i, x); y != want || e != f {
		t.Fatalf("%s: Mine of %d, %d: got %d, %d", text(u), i, x, y, e)
	}
}

// follows: the nodes of x's resolution l have the members under x under them, each once, and nobody else; one who is Unmerged by its own leaf alone. Each of them Holds just one, and others none.
func follows(t *testing.T, u []api.TNode, x int, l []int) {
	t.Helper()
	reached := make([]int, (len(u)+1)/2)
	for _, y := range l {
		p := at(u, y)
		for i := p.from; i < p.to; i++ {
			if u[2*i].Kind == api.Leaf && !slices.Contains(u[y].Unmerged, i) {
				reached[i]++
			}
		}
	}
	p := at(u, x)
	for i, got := range reached {
		want := 0
		if i >= p.from && i < p.to && u[2*i].Kind == api.Leaf {
			want = 1
		}
		if got != want {
			t.Fatalf("%s: by %v, of %d, %d is reached %d times", text(u), l, x, i, got)
		}
		// To ask all leaves of the greatest trees would take its time.
		if len(u) < 64 || (i+x)%64 == 0 {
			if held := countHeld(u, i, l); held != want {
				t.Fatalf("%s: of %v, of %d, %d Holds %d", text(u), l, x, i, held)
			}
		}
	}
}

func countHeld(u []api.TNode, i int, l []int) int {
	held := 0
	for _, y := range l {
		if is, e := resolve.Holds(u, i, y); is && e == api.OK {
			held++
		}
	}
	return held
}

func TestSmall(t *testing.T) {
	good := 0
	small(func(u []api.TNode) {
		good++
		was := text(u)
		for x := range u {
			agreeNode(t, u, x)
			for i := range 4 {
				agreeBoth(t, u, i, x)
			}
		}
		for i := range 4 {
			agreeLeaf(t, u, i)
		}
		if text(u) != was {
			t.Fatalf("%s: it is %s now", was, text(u))
		}
	})
	if good < 500 {
		t.Errorf("only %d trees", good)
	}
}

// renewed is u where the nodes of a member's path are Parents, as a commit leaves them, and the others above it Blank.
func renewed(u []api.TNode, i, round int) []api.TNode {
	v := copied(u)
	for _, p := range way(v, 2*i) {
		if !p.leaf() {
			v[p.x] = api.TNode{}
		}
	}
	nodes, _ := modelPath(u, i)
	for _, x := range nodes {
		v[x] = parent(round)
	}
	return v
}

// Members come and go, and renew what is above them: what is told of the trees that come of it is as the model has it.
func TestComeAndGo(t *testing.T) {
	d, u, most := draws(11), grown(1), 0
	for round := range 2400 {
		l := ratchet.Members(u)
		i, coming, e := l[d.below(len(l))], 4, api.OK
		if round > 1000 {
			coming = 2
		}
		switch c := d.below(10); {
		case c < coming && len(l) < api.MaxLeaves:
			u, _, e = ratchet.Add(u, leaf(round))
		case c < 5 && len(l) > 1:
			u, e = ratchet.Remove(u, i)
		default:
			u = renewed(u, i, round)
		}
		if e != api.OK || ratchet.Check(u) != api.OK {
			t.Fatalf("%d: got %s, %d", round, text(u), e)
		}
		most = max(most, len(u))
		if round%20 == 0 {
			agree(t, u, &d)
		}
	}
	if most != 511 {
		t.Errorf("at most %d nodes", most)
	}
}

// agree asks all of small trees, and of greater ones what is drawn.
func agree(t *testing.T, u []api.TNode, d *draws) {
	t.Helper()
	n := (len(u) + 1) / 2
	if len(u) > 31 {
		agreeNode(t, u, n-1)
		for range 40 {
			i := d.below(n)
			agreeLeaf(t, u, i)
			agreeBoth(t, u, i, d.below(len(u)))
			agreeBoth(t, u, i, way(u, 2*i)[d.below(len(way(u, 2*i)))].x)
			agreeNode(t, u, d.below(len(u)))
		}
		return
	}
	for x := range u {
		agreeNode(t, u, x)
		for i := range n {
			agreeBoth(t, u, i, x)
		}
	}
	for i := range n {
		agreeLeaf(t, u, i)
	}
}

// listers are the calls that answer lists, of a tree that is much like rich.
func listers() map[string]func(u []api.TNode) ([]int, api.Errno) {
	return map[string]func(u []api.TNode) ([]int, api.Errno){
		"Resolution of the root": func(u []api.TNode) ([]int, api.Errno) { return resolve.Resolution(u, 7) },
		"Resolution of 11":       func(u []api.TNode) ([]int, api.Errno) { return resolve.Resolution(u, 11) },
		"Resolution of 0":        func(u []api.TNode) ([]int, api.Errno) { return resolve.Resolution(u, 0) },
		"Path": func(u []api.TNode) ([]int, api.Errno) {
			l, _, e := resolve.Path(u, 4)
			return l, e
		},
		"Path's others": func(u []api.TNode) ([]int, api.Errno) {
			_, l, e := resolve.Path(u, 4)
			return l, e
		},
	}
}

// ruin writes into all of a list, and behind its end.
func ruin(l []int) {
	for k := range l[:cap(l)] {
		l[:cap(l)][k] = -77
	}
}

// A tree that is handed in stays, whatever becomes of the answer; an answer stays, whatever becomes of what was handed in.
func TestNothingIsShared(t *testing.T) {
	for name, tell := range listers() {
		// The tree has room behind its end, and so have its lists: that is not its own.
		whole := append(rich(), rich()...)
		whole[7].Unmerged = []int{3, 6, 99, 99}[:2]
		u := whole[:15]
		was, room := text(whole), whole[7].Unmerged[:4]
		l, e := tell(u)
		told := slices.Clone(l)
		m, _ := tell(u)
		ruin(m)
		if e != api.OK || len(l) == 0 || text(whole) != was || !slices.Equal(room, []int{3, 6, 99, 99}) || !slices.Equal(l, told) {
			t.Errorf("%s: what another call told changed %s, %v, %v", name, text(whole), room, l)
		}
		for x := range u {
			ruin(u[x].Unmerged)
			u[x] = api.TNode{Kind: 77}
		}
		if !slices.Equal(l, told) {
			t.Errorf("%s: what was handed in changed %v", name, l)
		}
	}
	l, m, _ := resolve.Path(rich(), 4)
	if ruin(l); !slices.Equal(m, []int{10, 13, 3}) {
		t.Errorf("Path's lists share: got %v", m)
	}
	l, m, _ = resolve.Path(rich(), 4)
	if ruin(m); !slices.Equal(l, []int{9, 11, 7}) {
		t.Errorf("Path's lists share: got %v", l)
	}
}

func TestExceptSharesNothing(t *testing.T) {
	for _, leaves := range [][]int{{3, 1, 2, 1}, {}, {9}} {
		whole, numbers := []int{6, 1, 2, 4, 0, 98, 99}, append(leaves, 5, 0)
		l, off := whole[:5], numbers[:len(leaves)]
		was, wasOff := slices.Clone(whole), slices.Clone(numbers)
		got := resolve.Except(l, off...)
		told := slices.Clone(got)
		ruin(resolve.Except(l, off...))
		if !slices.Equal(whole, was) || !slices.Equal(numbers, wasOff) || !slices.Equal(got, told) || len(got) == 0 {
			t.Errorf("%v: another call changed %v, %v, %v", leaves, whole, numbers, got)
		}
		ruin(l)
		ruin(off)
		if !slices.Equal(got, told) {
			t.Errorf("%v: what was handed in changed %v", leaves, got)
		}
	}
}
