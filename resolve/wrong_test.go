package resolve_test

import (
	"slices"
	"strconv"
	"testing"

	"cassock/api"
	"cassock/resolve"
)

// refused tells that no call takes u with these numbers.
func refused(t *testing.T, why string, u []api.TNode, i, x int) {
	t.Helper()
	if is, e := resolve.Holds(u, i, x); is || e != api.ErrArg {
		t.Errorf("%s: Holds of %d, %d: got %v, %d", why, i, x, is, e)
	}
	if y, e := resolve.Mine(u, i, x); y != 0 || e != api.ErrArg {
		t.Errorf("%s: Mine of %d, %d: got %d, %d", why, i, x, y, e)
	}
}

func refusedNode(t *testing.T, why string, u []api.TNode, x int) {
	t.Helper()
	if l, e := resolve.Resolution(u, x); len(l) > 0 || e != api.ErrArg {
		t.Errorf("%s: Resolution of %d: got %v, %d", why, x, l, e)
	}
}

func refusedLeaf(t *testing.T, why string, u []api.TNode, i int) {
	t.Helper()
	if l, m, e := resolve.Path(u, i); len(l) > 0 || len(m) > 0 || e != api.ErrArg {
		t.Errorf("%s: Path of %d: got %v, %v, %d", why, i, l, m, e)
	}
}

// outside are numbers that are none from 0 on, below n. Doubled, some are such ones again.
func outside(n int) []int {
	l := []int{-1, -2, -3, -n, -n - 1, -255, -256, -510, -511, -1 << 32, -1 << 62, -1<<62 - 1, n, n + 1, n + 2, 2*n - 2, 2*n - 1, 2 * n, 256, 510, 511, 512, 1023, 1 << 31, 1 << 32, 1<<32 + 1, 1 << 62, 1<<62 + 1, greatest - 1, greatest}
	for k := range 8 {
		l = append(l, least+k, 1<<62+k)
	}
	return slices.DeleteFunc(l, func(x int) bool { return x >= 0 && x < n })
}

func TestNoSuchNumber(t *testing.T) {
	for _, n := range counts() {
		u, why := grown(n), strconv.Itoa(n)+" leaves"
		for _, x := range outside(2*n - 1) {
			refusedNode(t, why, u, x)
			refused(t, why, u, 0, x)
			refused(t, why, u, n-1, x)
		}
		for _, i := range outside(n) {
			refusedLeaf(t, why, u, i)
			refused(t, why, u, i, 0)
			refused(t, why, u, i, n-1)
			refused(t, why, u, i, 2*n-2)
			refused(t, why, u, i, i)
		}
	}
	// Where the leaf is Blank, too, a number that is no node's is told.
	for _, x := range outside(15) {
		refused(t, "a Blank leaf", rich(), 2, x)
	}
}

// trees are such as may not be.
func trees() map[string][]api.TNode {
	l := map[string][]api.TNode{"nil": nil, "empty": {}, "nobody": among(1), "nobody of 4": among(4), "nobody on the right": among(4, 0, 1), "a root alone": {{}, parent(1), {}}}
	for _, n := range []int{2, 4, 5, 6, 8, 9, 11, 13, 14, 16, 29, 510, 512, 513, 1023} {
		u := make([]api.TNode, n)
		for x := 0; x < n; x += 2 {
			u[x] = leaf(x)
		}
		l[strconv.Itoa(n)+" nodes"] = u
	}
	for name, change := range map[string]func(u []api.TNode){
		"a Parent at a leaf's":      func(u []api.TNode) { u[0] = parent(1) },
		"a Leaf at a parent's":      func(u []api.TNode) { u[1] = leaf(1) },
		"a Leaf at the root":        func(u []api.TNode) { u[7] = leaf(1) },
		"a kind 3":                  func(u []api.TNode) { u[2].Kind = 3 },
		"a kind -1":                 func(u []api.TNode) { u[3].Kind = -1 },
		"a kind beyond 32 bits":     func(u []api.TNode) { u[14].Kind = 1<<32 + 1 },
		"a Blank one with a name":   func(u []api.TNode) { u[4].Id = 1 },
		"a Blank one with a leaf":   func(u []api.TNode) { u[5].Unmerged = []int{3} },
		"a Leaf with a leaf":        func(u []api.TNode) { u[0].Unmerged = []int{0} },
		"a Parent with a name":      func(u []api.TNode) { u[13].Id = 1 },
		"a Parent with a Sig":       func(u []api.TNode) { u[9].Sig = 1 },
		"falling":                   func(u []api.TNode) { u[7].Unmerged = []int{6, 3} },
		"twice":                     func(u []api.TNode) { u[7].Unmerged = []int{3, 3, 6} },
		"of no leaf":                func(u []api.TNode) { u[7].Unmerged = []int{3, 6, 8} },
		"of a number below 0":       func(u []api.TNode) { u[7].Unmerged = []int{-1, 3, 6} },
		"of one without a double":   func(u []api.TNode) { u[1].Unmerged = []int{least} },
		"of a leaf elsewhere":       func(u []api.TNode) { u[9].Unmerged = []int{0} },
		"of a Blank leaf":           func(u []api.TNode) { u[3].Unmerged = []int{2} },
		"not of the one below":      func(u []api.TNode) { u[3].Unmerged = nil },
		"not of the one far below":  func(u []api.TNode) { u[7].Unmerged = []int{0, 3, 6} },
		"of a leaf of another half": func(u []api.TNode) { u[13].Unmerged = []int{5, 6} },
	} {
		u := rich()
		change(u)
		l[name] = u
	}
	return l
}

func TestNoSuchTree(t *testing.T) {
	for why, u := range trees() {
		was := text(u)
		for _, k := range []int{0, 1, 2, 3, 4, 5, 6, 7, 8, len(u) / 2, len(u) - 1, len(u), -1, greatest, least} {
			refusedNode(t, why, u, k)
			refusedLeaf(t, why, u, k)
			for _, i := range []int{0, 1, 2, 3, 7, k} {
				refused(t, why, u, i, k)
			}
		}
		if text(u) != was {
			t.Errorf("%s: it is %s now", why, text(u))
		}
	}
}
