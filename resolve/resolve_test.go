package resolve_test

import (
	"slices"
	"testing"

	"cassock/api"
	"cassock/resolve"
)

// resolved holds the resolution of each node of u against want.
func resolved(t *testing.T, u []api.TNode, want ...[]int) {
	t.Helper()
	mustBe(t, u)
	for x := range u {
		if l, e := resolve.Resolution(u, x); !slices.Equal(l, want[x]) || e != api.OK {
			t.Errorf("%s: Resolution of %d: got %v, %d", text(u), x, l, e)
		}
	}
}

// climbed holds the paths of all leaves of u against want: nodes, and what stands beside.
func climbed(t *testing.T, u []api.TNode, want ...[2][]int) {
	t.Helper()
	mustBe(t, u)
	for i, w := range want {
		if l, m, e := resolve.Path(u, i); !slices.Equal(l, w[0]) || !slices.Equal(m, w[1]) || e != api.OK {
			t.Errorf("%s: Path of %d: got %v, %v, %d", text(u), i, l, m, e)
		}
	}
	if 2*len(want)-1 != len(u) {
		t.Errorf("%d leaves, not %d", len(u)/2+1, len(want))
	}
}

// held holds against want which nodes of u each leaf Holds.
func held(t *testing.T, u []api.TNode, want ...[]int) {
	t.Helper()
	mustBe(t, u)
	for i, w := range want {
		var l []int
		for x := range u {
			is, e := resolve.Holds(u, i, x)
			if e != api.OK {
				t.Errorf("%s: Holds of %d, %d: got %d", text(u), i, x, e)
			}
			if is {
				l = append(l, x)
			}
		}
		if !slices.Equal(l, w) {
			t.Errorf("%s: Holds of %d: got %v", text(u), i, l)
		}
	}
	if 2*len(want)-1 != len(u) {
		t.Errorf("%d leaves, not %d", len(u)/2+1, len(want))
	}
}

// mine holds Mine against want: of the leaf i and each node of u, none being -1.
func mine(t *testing.T, u []api.TNode, i int, want ...int) {
	t.Helper()
	mustBe(t, u)
	for x := range u {
		e := api.OK
		if want[x] < 0 {
			want[x], e = 0, api.ErrNone
		}
		if y, f := resolve.Mine(u, i, x); y != want[x] || f != e {
			t.Errorf("%s: Mine of %d, %d: got %d, %d", text(u), i, x, y, f)
		}
	}
}

// The chapter's example.
func TestExample(t *testing.T) {
	if l, e := resolve.Resolution(grown(4), 3); !slices.Equal(l, []int{0, 2, 4, 6}) || e != api.OK {
		t.Errorf("got %v, %d", l, e)
	}
}

func TestOneLeaf(t *testing.T) {
	u := grown(1)
	resolved(t, u, []int{0})
	climbed(t, u, [2][]int{})
	held(t, u, []int{0})
	mine(t, u, 0, 0)
}

func TestTwoLeaves(t *testing.T) {
	u := grown(2)
	resolved(t, u, []int{0}, []int{0, 2}, []int{2})
	climbed(t, u, [2][]int{{1}, {2}}, [2][]int{{1}, {0}})
	held(t, u, []int{0}, []int{2})
	mine(t, u, 0, 0, 0, -1)
	mine(t, u, 1, -1, 2, 2)

	u[1] = parent(1)
	resolved(t, u, []int{0}, []int{1}, []int{2})
	climbed(t, u, [2][]int{{1}, {2}}, [2][]int{{1}, {0}})
	held(t, u, []int{0, 1}, []int{1, 2})
	mine(t, u, 0, 0, 1, -1)

	u[1] = parent(1, 1)
	resolved(t, u, []int{0}, []int{1, 2}, []int{2})
	held(t, u, []int{0, 1}, []int{2})
	mine(t, u, 1, -1, 2, 2)

	// All of them are Unmerged: nobody has the root's key.
	u[1] = parent(1, 0, 1)
	resolved(t, u, []int{0}, []int{1, 0, 2}, []int{2})
	held(t, u, []int{0}, []int{2})
	mine(t, u, 0, 0, 0, -1)

	u = among(2, 1)
	resolved(t, u, nil, []int{2}, []int{2})
	climbed(t, u, [2][]int{{1}, {2}}, [2][]int{})
	held(t, u, nil, []int{2})
	mine(t, u, 0, -1, -1, -1)
}

func TestFourLeaves(t *testing.T) {
	u := grown(4)
	resolved(t, u, []int{0}, []int{0, 2}, []int{2}, []int{0, 2, 4, 6}, []int{4}, []int{4, 6}, []int{6})
	climbed(t, u, [2][]int{{1, 3}, {2, 5}}, [2][]int{{1, 3}, {0, 5}}, [2][]int{{5, 3}, {6, 1}}, [2][]int{{5, 3}, {4, 1}})
	held(t, u, []int{0}, []int{2}, []int{4}, []int{6})
	mine(t, u, 2, -1, -1, -1, 4, 4, 4, -1)

	// The root is Blank, but what is under it is not; the right one has someone Unmerged.
	u[1], u[5] = parent(1), parent(5, 2)
	resolved(t, u, []int{0}, []int{1}, []int{2}, []int{1, 5, 4}, []int{4}, []int{5, 4}, []int{6})
	held(t, u, []int{0, 1}, []int{1, 2}, []int{4}, []int{5, 6})
	mine(t, u, 0, 0, 1, -1, 1, -1, -1, -1)
	mine(t, u, 2, -1, -1, -1, 4, 4, 4, -1)
	mine(t, u, 3, -1, -1, -1, 5, -1, 5, 6)

	// A root stands for all that is under it, whatever that is.
	u[1], u[3], u[5] = api.TNode{}, parent(3), parent(5)
	resolved(t, u, []int{0}, []int{0, 2}, []int{2}, []int{3}, []int{4}, []int{5}, []int{6})
	held(t, u, []int{0, 3}, []int{2, 3}, []int{3, 4, 5}, []int{3, 5, 6})
	mine(t, u, 0, 0, 0, -1, 3, -1, -1, -1)
}

// Who is Unmerged below need not be so above.
func TestUnmergedBelowAlone(t *testing.T) {
	u := grown(4)
	u[1], u[3] = parent(1, 1), parent(3)
	resolved(t, u, []int{0}, []int{1, 2}, []int{2}, []int{3}, []int{4}, []int{4, 6}, []int{6})
	held(t, u, []int{0, 1, 3}, []int{2, 3}, []int{3, 4}, []int{3, 6})
	mine(t, u, 1, -1, 2, 2, 3, -1, -1, -1)
}

func TestEightLeaves(t *testing.T) {
	u := rich()
	resolved(t, u, []int{0}, []int{1}, []int{2}, []int{3, 6}, nil, []int{6}, []int{6}, []int{7, 6, 12}, []int{8}, []int{9}, []int{10}, []int{9, 13, 12}, []int{12}, []int{13, 12}, []int{14})
	climbed(t, u,
		[2][]int{{1, 3, 7}, {2, 5, 11}}, [2][]int{{1, 3, 7}, {0, 5, 11}},
		[2][]int{{5, 3, 7}, {6, 1, 11}}, [2][]int{{3, 7}, {1, 11}},
		[2][]int{{9, 11, 7}, {10, 13, 3}}, [2][]int{{9, 11, 7}, {8, 13, 3}},
		[2][]int{{13, 11, 7}, {14, 9, 3}}, [2][]int{{13, 11, 7}, {12, 9, 3}})
	held(t, u, []int{0, 1, 3, 7}, []int{1, 2, 3, 7}, nil, []int{6}, []int{7, 8, 9}, []int{7, 9, 10}, []int{12}, []int{7, 13, 14})
	mine(t, u, 0, 0, 1, -1, 3, -1, -1, -1, 7, -1, -1, -1, -1, -1, -1, -1)
	mine(t, u, 2, -1, -1, -1, -1, -1, -1, -1, -1, -1, -1, -1, -1, -1, -1, -1)
	mine(t, u, 3, -1, -1, -1, 6, -1, 6, 6, 6, -1, -1, -1, -1, -1, -1, -1)
	mine(t, u, 5, -1, -1, -1, -1, -1, -1, -1, 7, -1, 9, 10, 9, -1, -1, -1)
	mine(t, u, 6, -1, -1, -1, -1, -1, -1, -1, 12, -1, -1, -1, 12, 12, 12, -1)
	mine(t, u, 7, -1, -1, -1, -1, -1, -1, -1, 7, -1, -1, -1, 13, -1, 13, 14)

	// Without its root.
	u[7] = api.TNode{}
	resolved(t, u, []int{0}, []int{1}, []int{2}, []int{3, 6}, nil, []int{6}, []int{6}, []int{3, 6, 9, 13, 12}, []int{8}, []int{9}, []int{10}, []int{9, 13, 12}, []int{12}, []int{13, 12}, []int{14})
	mine(t, u, 1, -1, 1, 2, 3, -1, -1, -1, 3, -1, -1, -1, -1, -1, -1, -1)
	mine(t, u, 3, -1, -1, -1, 6, -1, 6, 6, 6, -1, -1, -1, -1, -1, -1, -1)
}

// Nobody is beside those who climb, at all places or at some.
func TestPathBesideNobody(t *testing.T) {
	// The only one has no path, whether the nodes above are Parents or not.
	u := among(8, 7)
	want := [][2][]int{{{7}, {11}}, {{7}, {11}}, {{7}, {11}}, {{7}, {11}}, {{11}, {13}}, {{11}, {13}}, {{13}, {14}}, {}}
	climbed(t, u, want...)
	u[13], u[11], u[7] = parent(13), parent(11), parent(7)
	// What is above the others is no more than it was: 13 and 11 stand beside them by themselves.
	climbed(t, u, want...)
	held(t, u, nil, nil, nil, nil, nil, nil, nil, []int{7, 11, 13, 14})

	u = among(8, 0, 7)
	climbed(t, u, [2][]int{{7}, {11}}, [2][]int{{1, 7}, {0, 11}}, [2][]int{{3, 7}, {1, 11}}, [2][]int{{3, 7}, {1, 11}}, [2][]int{{11, 7}, {13, 3}}, [2][]int{{11, 7}, {13, 3}}, [2][]int{{13, 7}, {14, 3}}, [2][]int{{7}, {3}})
	resolved(t, u, []int{0}, []int{0}, nil, []int{0}, nil, nil, nil, []int{0, 14}, nil, nil, nil, []int{14}, nil, []int{14}, []int{14})
}

// A Parent under which nobody is stands for itself, all the same; nobody Holds it.
func TestParentOverNobody(t *testing.T) {
	u := among(4, 2, 3)
	u[1] = parent(1)
	resolved(t, u, nil, []int{1}, nil, []int{1, 4, 6}, []int{4}, []int{4, 6}, []int{6})
	climbed(t, u, [2][]int{{3}, {5}}, [2][]int{{3}, {5}}, [2][]int{{5, 3}, {6, 1}}, [2][]int{{5, 3}, {4, 1}})
	held(t, u, nil, nil, []int{4}, []int{6})
	mine(t, u, 0, -1, -1, -1, -1, -1, -1, -1)
}

// The greatest tree there is.
func TestGreatest(t *testing.T) {
	u := grown(256)
	l, e := resolve.Resolution(u, 255)
	if len(l) != 256 || l[0] != 0 || l[255] != 510 || !slices.IsSorted(l) || e != api.OK {
		t.Errorf("got %v, %d", l, e)
	}
	nodes, others, e := resolve.Path(u, 255)
	if !slices.Equal(nodes, []int{509, 507, 503, 495, 479, 447, 383, 255}) || !slices.Equal(others, []int{508, 505, 499, 487, 463, 415, 319, 127}) || e != api.OK {
		t.Errorf("got %v, %v, %d", nodes, others, e)
	}
	u[255] = parent(1, 17, 255)
	mustBe(t, u)
	if l, e := resolve.Resolution(u, 255); !slices.Equal(l, []int{255, 34, 510}) || e != api.OK {
		t.Errorf("got %v, %d", l, e)
	}
	for i, want := range map[int]int{0: 255, 17: 34, 18: 255, 254: 255, 255: 510} {
		if y, e := resolve.Mine(u, i, 255); y != want || e != api.OK {
			t.Errorf("%d: got %d, %d", i, y, e)
		}
	}
}

func TestExcept(t *testing.T) {
	for _, c := range []struct{ l, leaves, want []int }{
		{[]int{1, 2, 4, 9}, []int{1, 9}, []int{1, 4, 9}},
		{[]int{0, 2, 4, 6}, nil, []int{0, 2, 4, 6}},
		{[]int{0, 2, 4, 6}, []int{}, []int{0, 2, 4, 6}},
		{nil, nil, nil},
		{nil, []int{0, 1}, nil},
		{[]int{}, []int{0}, nil},
		{[]int{0, 2, 4, 6}, []int{0, 1, 2, 3}, nil},
		{[]int{0, 2, 4, 6}, []int{3, 0}, []int{2, 4}},
		{[]int{0, 2, 4, 6}, []int{2}, []int{0, 2, 6}},
		{[]int{0, 2, 4, 6}, []int{4, 6}, []int{0, 2, 4, 6}},
		// A leaf's number is not a node's: odd ones stay, and their halves are nobody's.
		{[]int{1, 3, 5, 7}, []int{0, 1, 2, 3, 5, 7}, []int{1, 3, 5, 7}},
		{[]int{1, 0}, []int{0}, []int{1}},
		{[]int{-1, 0, 1}, []int{0}, []int{-1, 1}},
		{[]int{-3, -2, -1}, []int{-1}, []int{-3, -1}},
		{[]int{-3, -2, -1}, []int{-2}, []int{-3, -2, -1}},
		// As often as it comes, and in the order in which it comes.
		{[]int{9, 2, 9, 2, 4, 9}, []int{1, 1}, []int{9, 9, 4, 9}},
		{[]int{6, 4, 2, 0, 6}, []int{2, 1, 2}, []int{6, 0, 6}},
		// Beyond all trees, and as far as an int goes.
		{[]int{510, 512, 1024}, []int{256}, []int{510, 1024}},
		{[]int{-2, -512, 8}, []int{-256, -1, 5}, []int{8}},
		{[]int{least, greatest, greatest - 1, least + 1, least + 2}, []int{-1 << 62, 1<<62 - 1}, []int{greatest, least + 1, least + 2}},
		// Such as are, doubled, no int: what is left of their doubles is no number of theirs.
		{[]int{0, 2, -2, 4, least}, []int{least, least + 1, greatest, least + 2, 1 << 62}, []int{0, 2, -2, 4, least}},
	} {
		if l := resolve.Except(c.l, c.leaves...); !slices.Equal(l, c.want) {
			t.Errorf("%v but %v: got %v", c.l, c.leaves, l)
		}
	}
	if l := resolve.Except([]int{0, 2}); !slices.Equal(l, []int{0, 2}) {
		t.Errorf("got %v", l)
	}
}

// All lists of two numbers, and leaves, of a few; and long ones.
func TestExceptModel(t *testing.T) {
	some := []int{least, least + 1, least + 2, -1 << 62, -1<<62 - 1, -4, -3, -2, -1, 0, 1, 2, 3, 4, 1<<62 - 1, 1 << 62, greatest - 1, greatest}
	for _, x := range some {
		for _, i := range some {
			for _, k := range some {
				l := []int{x, 2, k}
				if got := resolve.Except(l, i, k); !slices.Equal(got, modelExcept(l, i, k)) {
					t.Fatalf("%v but %d, %d: got %v", l, i, k, got)
				}
			}
		}
	}
	d := draws(3)
	for range 200 {
		l, leaves := make([]int, d.below(60)), make([]int, d.below(40))
		for k := range l {
			l[k] = d.below(80) - 20
		}
		for k := range leaves {
			leaves[k] = d.below(50) - 15
		}
		if got := resolve.Except(l, leaves...); !slices.Equal(got, modelExcept(l, leaves...)) {
			t.Fatalf("%v but %v: got %v", l, leaves, got)
		}
	}
}
