package resolve_test

import (
	"slices"
	"strconv"
	"testing"

	"cassock/api"
	"cassock/ratchet"
)

// The model finds all nodes by halving the tree from the root down; it stands on no other layer.

// The ends of what an int can be.
const (
	greatest = 1<<63 - 1
	least    = -1 << 63
)

// counts are the numbers of leaves that a tree may have.
func counts() []int { return []int{1, 2, 4, 8, 16, 32, 64, 128, 256} }

// place is a node of a tree, and the leaves under it: from on, ahead of to.
type place struct{ x, from, to int }

func (p place) leaf() bool { return p.to-p.from == 1 }

func (p place) halves() (place, place) {
	half := (p.from + p.to) / 2
	return spot(p.from, half), spot(half, p.to)
}

func spot(from, to int) place { return place{from + to - 1, from, to} }

func root(t []api.TNode) place { return spot(0, (len(t)+1)/2) }

// way is the places from the root down to the node x, or to the one where it would have to be.
func way(t []api.TNode, x int) []place {
	l := []place{root(t)}
	for p := l[0]; p.x != x && !p.leaf(); l = append(l, p) {
		left, right := p.halves()
		if x < p.x {
			p = left
		} else {
			p = right
		}
	}
	return l
}

// at is the place of a node that is there.
func at(t []api.TNode, x int) place {
	l := way(t, x)
	return l[len(l)-1]
}

func modelResolution(t []api.TNode, x int) []int { return resolutionAt(t, at(t, x)) }

func resolutionAt(t []api.TNode, p place) []int {
	if t[p.x].Kind != api.Blank {
		l := []int{p.x}
		for _, i := range t[p.x].Unmerged {
			l = append(l, i+i)
		}
		return l
	}
	if p.leaf() {
		return nil
	}
	left, right := p.halves()
	return slices.Concat(resolutionAt(t, left), resolutionAt(t, right))
}

func modelPath(t []api.TNode, i int) ([]int, []int) {
	var nodes, others []int
	l := way(t, i+i)
	for _, p := range l[:len(l)-1] {
		left, right := p.halves()
		if i < left.to {
			left, right = right, left
		}
		if len(resolutionAt(t, left)) > 0 {
			nodes, others = append(nodes, p.x), append(others, left.x)
		}
	}
	slices.Reverse(nodes)
	slices.Reverse(others)
	return nodes, others
}

func modelHolds(t []api.TNode, i, x int) bool {
	for _, p := range way(t, i+i) {
		if p.x == x {
			return t[i+i].Kind != api.Blank && t[x].Kind != api.Blank && !slices.Contains(t[x].Unmerged, i)
		}
	}
	return false
}

func modelMine(t []api.TNode, i, x int) (int, api.Errno) {
	for _, y := range modelResolution(t, x) {
		if modelHolds(t, i, y) {
			return y, api.OK
		}
	}
	return 0, api.ErrNone
}

// modelExcept doubles leaves, where that is an int.
func modelExcept(l []int, leaves ...int) []int {
	var left []int
	for _, x := range l {
		if !slices.ContainsFunc(leaves, func(i int) bool { return i >= -1<<62 && i < 1<<62 && i+i == x }) {
			left = append(left, x)
		}
	}
	return left
}

// leaf is a member's, in which each part tells its name.
func leaf(id int) api.TNode {
	return api.TNode{Kind: api.Leaf, Id: id, Enc: 1000 + id, Sig: 2000 + id, Hash: 3000 + id}
}

func parent(enc int, unmerged ...int) api.TNode {
	return api.TNode{Kind: api.Parent, Enc: enc, Hash: 5000 + enc, Unmerged: unmerged}
}

// among is a tree of n leaves without Parents, that has these members.
func among(n int, members ...int) []api.TNode {
	u := make([]api.TNode, 2*n-1)
	for _, i := range members {
		u[2*i] = leaf(i + 1)
	}
	return u
}

// grown is a tree of n leaves, all of them members.
func grown(n int) []api.TNode {
	u := among(n)
	for i := range n {
		u[2*i] = leaf(i + 1)
	}
	return u
}

// rich is a tree of 8 leaves: member 2 is gone, 3 is Unmerged at two levels, and so is 6; nodes 5 and 11 are Blank.
func rich() []api.TNode {
	u := among(8, 0, 1, 3, 4, 5, 6, 7)
	u[1], u[3], u[7] = parent(1), parent(3, 3), parent(7, 3, 6)
	u[9], u[13] = parent(9), parent(13, 6)
	return u
}

// copied shares nothing with t.
func copied(t []api.TNode) []api.TNode {
	u := slices.Clone(t)
	for x := range u {
		u[x].Unmerged = slices.Clone(u[x].Unmerged)
	}
	return u
}

// text tells all of a tree.
func text(t []api.TNode) string {
	var b []byte
	for _, l := range t {
		for _, v := range []int{l.Kind, l.Id, l.Enc, l.Sig, l.Hash} {
			b = append(strconv.AppendInt(b, int64(v), 10), ',')
		}
		for _, v := range l.Unmerged {
			b = append(strconv.AppendInt(append(b, '+'), int64(v), 10), ',')
		}
		b = append(b, ';')
	}
	return string(b)
}

// mustBe fails the test, if a tree that it stands on may not be.
func mustBe(t *testing.T, u []api.TNode) {
	t.Helper()
	if e := ratchet.Check(u); e != api.OK {
		t.Fatalf("%s: got %d", text(u), e)
	}
}

// draws are numbers that look drawn, the same ones each time.
type draws uint64

// below is a number from 0 on, below n.
func (d *draws) below(n int) int {
	*d = *d*6364136223846793005 + 1442695040888963407
	return int(uint64(*d)>>33) % n
}
