package math_test

import (
	"slices"
	"testing"

	"cassock/api"
	"cassock/math"
)

// The chapter's example, and DOC.md's: of 4 leaves.
func TestExample(t *testing.T) {
	if w, e := math.Width(4); w != 7 || e != api.OK {
		t.Errorf("Width: got %d, %d", w, e)
	}
	if r, e := math.Root(4); r != 3 || e != api.OK {
		t.Errorf("Root: got %d, %d", r, e)
	}
	if l, e := math.Path(0, 4); !slices.Equal(l, []int{1, 3}) || e != api.OK {
		t.Errorf("Path: got %v, %d", l, e)
	}
	if l, e := math.Copath(0, 4); !slices.Equal(l, []int{2, 5}) || e != api.OK {
		t.Errorf("Copath: got %v, %d", l, e)
	}
	if x, e := math.Common(0, 4, 4); x != 3 || e != api.OK {
		t.Errorf("Common: got %d, %d", x, e)
	}
	if from, to, e := math.Leaves(5); from != 2 || to != 4 || e != api.OK {
		t.Errorf("Leaves: got %d, %d, %d", from, to, e)
	}
}

func TestWidthAndRoot(t *testing.T) {
	for _, n := range counts() {
		if w, e := math.Width(n); w != 2*n-1 || e != api.OK {
			t.Errorf("Width of %d: got %d, %d", n, w, e)
		}
		if r, e := math.Root(n); r != n-1 || e != api.OK {
			t.Errorf("Root of %d: got %d, %d", n, r, e)
		}
	}
}

// Level, Left, Right and Leaves of all nodes that there are: 0 and 510 are leaves, 255 the greatest tree's root.
func TestNode(t *testing.T) {
	m := newModel(api.MaxLeaves)
	for x, of := range m.nodes {
		if k, e := math.Level(x); k != of.level || e != api.OK {
			t.Errorf("Level of %d: got %d, %d", x, k, e)
		}
		from, to, e := math.Leaves(x)
		if from != of.leaves[0] || to-from != len(of.leaves) || e != api.OK {
			t.Errorf("Leaves of %d: got %d, %d, %d", x, from, to, e)
		}
		l, e := math.Left(x)
		r, f := math.Right(x)
		if of.left == none {
			if l != 0 || e != api.ErrArg || r != 0 || f != api.ErrArg {
				t.Errorf("the leaf %d: got %d, %d; %d, %d", x, l, e, r, f)
			}
		} else if l != of.left || e != api.OK || r != of.right || f != api.OK {
			t.Errorf("the children of %d: got %d, %d; %d, %d", x, l, e, r, f)
		}
	}
}

func TestNodeAtTheEdges(t *testing.T) {
	for x, want := range map[int][5]int{0: {0, none, none, 0, 1}, 1: {1, 0, 2, 0, 2}, 254: {0, none, none, 127, 128}, 255: {8, 127, 383, 0, 256}, 256: {0, none, none, 128, 129}, 383: {7, 319, 447, 128, 256}, 509: {1, 508, 510, 254, 256}, 510: {0, none, none, 255, 256}} {
		k, _ := math.Level(x)
		from, to, _ := math.Leaves(x)
		l, e := math.Left(x)
		r, f := math.Right(x)
		if e == api.ErrArg && f == api.ErrArg {
			l, r = none, none
		}
		if got := [5]int{k, l, r, from, to}; got != want {
			t.Errorf("%d: got %v", x, got)
		}
	}
}

// Parent, Sibling, Path and Copath of all nodes of all trees.
func TestNodeOfTree(t *testing.T) {
	for _, n := range counts() {
		m := newModel(n)
		for x, of := range m.nodes {
			if l, e := math.Path(x, n); !slices.Equal(l, m.path(x)) || e != api.OK {
				t.Errorf("Path of %d of %d: got %v, %d", x, n, l, e)
			}
			if l, e := math.Copath(x, n); !slices.Equal(l, m.copath(x)) || e != api.OK {
				t.Errorf("Copath of %d of %d: got %v, %d", x, n, l, e)
			}
			p, e := math.Parent(x, n)
			s, f := math.Sibling(x, n)
			if of.parent == none {
				if p != 0 || e != api.ErrArg || s != 0 || f != api.ErrArg {
					t.Errorf("the root %d of %d: got %d, %d; %d, %d", x, n, p, e, s, f)
				}
			} else if p != of.parent || e != api.OK || s != m.sibling(x) || f != api.OK {
				t.Errorf("%d of %d: got %d, %d; %d, %d", x, n, p, e, s, f)
			}
		}
	}
}

// A tree of one leaf has no node but its root; one of two has a root and no more above its leaves.
func TestSmallTrees(t *testing.T) {
	for name, call := range ofTree() {
		want := []int{0}
		e := api.OK
		switch name {
		case "Path", "Copath":
			want = nil
		case "Parent", "Sibling":
			e = api.ErrArg
		}
		if l, f := call(0, 1); !slices.Equal(l, want) || f != e {
			t.Errorf("%s of 1 leaf: got %v, %d", name, l, f)
		}
	}
	for x, want := range map[int][]int{0: {1}, 2: {1}, 1: {}} {
		if l, e := math.Path(x, 2); !slices.Equal(l, want) || e != api.OK {
			t.Errorf("Path of %d of 2: got %v, %d", x, l, e)
		}
	}
	for x, want := range map[int][]int{0: {2}, 2: {0}, 1: {}} {
		if l, e := math.Copath(x, 2); !slices.Equal(l, want) || e != api.OK {
			t.Errorf("Copath of %d of 2: got %v, %d", x, l, e)
		}
	}
}

func TestGreatestTree(t *testing.T) {
	for x, want := range map[int][]int{0: {1, 3, 7, 15, 31, 63, 127, 255}, 510: {509, 507, 503, 495, 479, 447, 383, 255}} {
		if l, e := math.Path(x, 256); !slices.Equal(l, want) || e != api.OK {
			t.Errorf("Path of %d: got %v, %d", x, l, e)
		}
	}
	for x, want := range map[int][]int{0: {2, 5, 11, 23, 47, 95, 191, 383}, 510: {508, 505, 499, 487, 463, 415, 319, 127}} {
		if l, e := math.Copath(x, 256); !slices.Equal(l, want) || e != api.OK {
			t.Errorf("Copath of %d: got %v, %d", x, l, e)
		}
	}
	if x, e := math.Common(0, 510, 256); x != 255 || e != api.OK {
		t.Errorf("Common: got %d, %d", x, e)
	}
}

// The same node has another parent where the tree ends with it: a root of a small tree is a child of a great one.
func TestRootsOfSmallTreesHaveParentsInGreaterOnes(t *testing.T) {
	for _, n := range counts() {
		root, _ := math.Root(n)
		for _, m := range counts() {
			p, e := math.Parent(root, m)
			s, f := math.Sibling(root, m)
			switch {
			case m <= n && (p != 0 || e != api.ErrArg || s != 0 || f != api.ErrArg):
				t.Errorf("%d of %d: got %d, %d; %d, %d", root, m, p, e, s, f)
			case m > n && (p != 2*n-1 || e != api.OK || s != 3*n-1 || f != api.OK):
				t.Errorf("%d of %d: got %d, %d; %d, %d", root, m, p, e, s, f)
			}
		}
	}
}

// Common of all pairs of all trees.
func TestCommon(t *testing.T) {
	for _, n := range counts() {
		m := newModel(n)
		for x := range m.nodes {
			for y := range m.nodes {
				if z, e := math.Common(x, y, n); z != m.common(x, y) || e != api.OK {
					t.Errorf("%d and %d of %d: got %d, %d", x, y, n, z, e)
				}
			}
		}
	}
}

// Of one under the other it is the upper one, whichever number is the greater; of one with itself it is that one; of others one above both.
func TestCommonOfOneUnderTheOther(t *testing.T) {
	for _, x := range [][3]int{{0, 1, 1}, {2, 1, 1}, {0, 3, 3}, {6, 3, 3}, {1, 3, 3}, {5, 3, 3}, {4, 5, 5}, {6, 5, 5}, {5, 7, 7}, {8, 7, 7}, {0, 7, 7}, {14, 7, 7}, {7, 7, 7}, {5, 5, 5}, {14, 14, 14}, {0, 0, 0}, {0, 2, 1}, {2, 4, 3}, {4, 6, 5}, {6, 8, 7}, {1, 4, 3}, {1, 5, 3}, {5, 9, 7}} {
		for _, pair := range [][2]int{{x[0], x[1]}, {x[1], x[0]}} {
			if z, e := math.Common(pair[0], pair[1], 8); z != x[2] || e != api.OK {
				t.Errorf("%v: got %d, %d", pair, z, e)
			}
		}
	}
}

func TestSize(t *testing.T) {
	for n, want := range map[int]int{1: 1, 2: 2, 3: 4, 4: 4, 5: 8, 8: 8, 9: 16, 64: 64, 65: 128, 127: 128, 128: 128, 129: 256, 255: 256, 256: 256} {
		if got, e := math.Size(n); got != want || e != api.OK {
			t.Errorf("%d: got %d, %d", n, got, e)
		}
	}
	for n := 1; n <= api.MaxLeaves; n++ {
		i := slices.IndexFunc(counts(), func(size int) bool { return size >= n })
		if got, e := math.Size(n); got != counts()[i] || e != api.OK {
			t.Errorf("%d: got %d, %d", n, got, e)
		}
	}
	for _, n := range []int{0, -1, -2, -3, -255, -256, -257, -1 << 32, least, least + 1, least + 2, 257, 258, 511, 512, 1024, 1 << 31, 1 << 32, 1<<32 + 1, 1 << 62, 1<<62 + 1, greatest - 1, greatest} {
		if got, e := math.Size(n); got != 0 || e != api.ErrArg {
			t.Errorf("%d: got %d, %d", n, got, e)
		}
	}
}

// No tree has such a number of leaves, whatever node is asked for.
func TestNoTree(t *testing.T) {
	for _, n := range noCounts() {
		if w, e := math.Width(n); w != 0 || e != api.ErrArg {
			t.Errorf("Width of %d: got %d, %d", n, w, e)
		}
		if r, e := math.Root(n); r != 0 || e != api.ErrArg {
			t.Errorf("Root of %d: got %d, %d", n, r, e)
		}
		for name, call := range ofTree() {
			for _, x := range append(outside(511), 0, 1, 2, 3, 255, 510, n, n-1, n/2, 2*n-2, 2*n-1) {
				if l, e := call(x, n); !nothing(l) || e != api.ErrArg {
					t.Errorf("%s, %d of %d: got %v, %d", name, x, n, l, e)
				}
			}
		}
	}
}

// Below 0, or above 510, there is no node.
func TestNoNode(t *testing.T) {
	for name, call := range ofNode() {
		for _, x := range outside(511) {
			if l, e := call(x); !nothing(l) || e != api.ErrArg {
				t.Errorf("%s of %d: got %v, %d", name, x, l, e)
			}
		}
	}
}

// What is no node of this tree may be one of another, and beside it may stand one that is.
func TestNoNodeOfTree(t *testing.T) {
	for _, n := range counts() {
		for name, call := range ofTree() {
			for _, x := range append(outside(2*n-1), 511, 512) {
				if l, e := call(x, n); !nothing(l) || e != api.ErrArg {
					t.Errorf("%s, %d of %d: got %v, %d", name, x, n, l, e)
				}
			}
			for x := 2*n - 1; x < 511; x++ {
				if l, e := call(x, n); !nothing(l) || e != api.ErrArg {
					t.Errorf("%s, %d of %d: got %v, %d", name, x, n, l, e)
				}
			}
		}
	}
}

// P6.3: a child's parent is the node, and the other child its sibling, in each tree that has them.
func TestChildsParent(t *testing.T) {
	for _, n := range counts() {
		width, _ := math.Width(n)
		for x := range width {
			l, e := math.Left(x)
			r, _ := math.Right(x)
			if e != api.OK {
				continue
			}
			if p, e := math.Parent(l, n); p != x || e != api.OK {
				t.Errorf("%d of %d: the left one's is %d, %d", x, n, p, e)
			}
			if p, e := math.Parent(r, n); p != x || e != api.OK {
				t.Errorf("%d of %d: the right one's is %d, %d", x, n, p, e)
			}
			if s, e := math.Sibling(l, n); s != r || e != api.OK {
				t.Errorf("%d of %d: got %d, %d", l, n, s, e)
			}
			if s, e := math.Sibling(r, n); s != l || e != api.OK {
				t.Errorf("%d of %d: got %d, %d", r, n, s, e)
			}
		}
	}
}

// P6.3: Path's levels rise by one, from x's own, and it ends with the root.
func TestPathRises(t *testing.T) {
	for _, n := range counts() {
		root, _ := math.Root(n)
		width, _ := math.Width(n)
		for x := range width {
			l, _ := math.Path(x, n)
			level, _ := math.Level(x)
			last := x
			for _, y := range l {
				level++
				if k, e := math.Level(y); k != level || e != api.OK {
					t.Errorf("%d of %d: %d has the level %d, %d", x, n, y, k, e)
				}
				last = y
			}
			if last != root {
				t.Errorf("%d of %d: got %v", x, n, l)
			}
		}
	}
}

// P6.3: x and its Copath have each leaf just once.
func TestCopathHasTheRest(t *testing.T) {
	for _, n := range counts() {
		width, _ := math.Width(n)
		for x := range width {
			l, _ := math.Copath(x, n)
			times := make([]int, n)
			for _, y := range append([]int{x}, l...) {
				from, to, _ := math.Leaves(y)
				for i := from; i < to; i++ {
					times[i]++
				}
			}
			if slices.ContainsFunc(times, func(k int) bool { return k != 1 }) {
				t.Errorf("%d of %d: got %v", x, n, times)
			}
		}
	}
}

// The lists are the caller's own: what is laid into one, or put behind it, is in no other.
func TestListsAreTheCallersOwn(t *testing.T) {
	for name, call := range map[string]func(x, n int) ([]int, api.Errno){"Path": math.Path, "Copath": math.Copath} {
		for _, x := range []int{0, 1, 9, 14} {
			first, _ := call(x, 8)
			was := slices.Clone(first)
			second, _ := call(x, 8)
			for i := range second {
				second[i] = -5
			}
			third, _ := call(x, 8)
			clear(append(third, 5, 5, 5))
			if fourth, _ := call(x, 8); !slices.Equal(first, was) || !slices.Equal(fourth, was) {
				t.Errorf("%s of %d: got %v, %v, not %v", name, x, first, fourth, was)
			}
		}
	}
}
