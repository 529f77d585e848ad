package ratchet_test

import (
	"slices"
	"strconv"

	"cassock/api"
)

// The model finds all places by halving the tree from the root down, and truncates step by step, as the chapter's words have it.

// The ends of what an int can be.
const (
	greatest = 1<<63 - 1
	least    = -1 << 63
)

// counts are the numbers of leaves that a tree may have.
func counts() []int { return []int{1, 2, 4, 8, 16, 32, 64, 128, 256} }

// place is a node of a tree, and the leaves under it: from on, ahead of to.
type place struct{ x, from, to int }

// way is the places from the leaf i up to the root of a tree of n leaves.
func way(i, n int) []place {
	l := make([]place, 0, 9)
	for from, to := 0, n; ; {
		l = append(l, place{from + to - 1, from, to})
		if to-from == 1 {
			break
		}
		if half := (from + to) / 2; i < half {
			to = half
		} else {
			from = half
		}
	}
	slices.Reverse(l)
	return l
}

// ways are those of all leaves: each node stands on that of its first one.
func ways(n int) [][]place {
	l := make([][]place, n)
	for i := range n {
		l[i] = way(i, n)
	}
	return l
}

// mayBe tells whether t may be.
func mayBe(t []api.TNode) bool {
	at := slices.IndexFunc(counts(), func(n int) bool { return len(t) == 2*n-1 })
	if at < 0 {
		return false
	}
	n := counts()[at]
	of := ways(n)
	for i, l := range of {
		for _, p := range l {
			if p.from == i && !nodeMayBe(t, of, p) {
				return false
			}
		}
	}
	return n == 1 && t[0].Kind != api.Blank || n > 1 && someone(t, n/2, n)
}

// someone tells whether a leaf from from on, ahead of to, is none Blank.
func someone(t []api.TNode, from, to int) bool {
	for i := from; i < to; i++ {
		if t[2*i].Kind != api.Blank {
			return true
		}
	}
	return false
}

func nodeMayBe(t []api.TNode, of [][]place, p place) bool {
	l, leaf := t[p.x], p.to-p.from == 1
	switch l.Kind {
	case api.Blank:
		return l.Id == 0 && l.Enc == 0 && l.Sig == 0 && l.Hash == 0 && len(l.Unmerged) == 0
	case api.Leaf:
		return leaf && len(l.Unmerged) == 0
	case api.Parent:
		return !leaf && l.Id == 0 && l.Sig == 0 && unmergedMayBe(t, of, p)
	}
	return false
}

func unmergedMayBe(t []api.TNode, of [][]place, p place) bool {
	l := t[p.x].Unmerged
	for k, i := range l {
		if i < p.from || i >= p.to || t[2*i].Kind != api.Leaf || k > 0 && l[k-1] >= i {
			return false
		}
		for _, q := range of[i][1:] {
			if q.x == p.x {
				break
			}
			if t[q.x].Kind != api.Blank && !slices.Contains(t[q.x].Unmerged, i) {
				return false
			}
		}
	}
	return true
}

// copied shares nothing with t, and has empty lists where t has them.
func copied(t []api.TNode) []api.TNode {
	u := slices.Clone(t)
	for x := range u {
		u[x].Unmerged = slices.Clone(u[x].Unmerged)
	}
	return u
}

func modelAdd(t []api.TNode, l api.TNode) ([]api.TNode, int, api.Errno) {
	if !mayBe(t) || l.Kind != api.Leaf || len(l.Unmerged) > 0 {
		return nil, 0, api.ErrArg
	}
	u, i := copied(t), 0
	for i < len(u) && u[i].Kind != api.Blank {
		i += 2
	}
	i /= 2
	if 2*i > len(u) {
		if i == 256 {
			return nil, 0, api.ErrLong
		}
		for len(u) < 4*i-1 {
			u = append(u, api.TNode{})
		}
	}
	for _, p := range way(i, (len(u)+1)/2)[1:] {
		if u[p.x].Kind == api.Parent {
			u[p.x].Unmerged = append(u[p.x].Unmerged, i)
			slices.Sort(u[p.x].Unmerged)
		}
	}
	u[2*i] = l
	return u, i, api.OK
}

func modelRemove(t []api.TNode, i int) ([]api.TNode, api.Errno) {
	if !mayBe(t) {
		return nil, api.ErrArg
	}
	n := (len(t) + 1) / 2
	if i < 0 || i >= n || t[2*i].Kind == api.Blank {
		return nil, api.ErrNone
	}
	u := copied(t)
	for _, p := range way(i, n) {
		u[p.x] = api.TNode{}
	}
	if !someone(u, 0, n) {
		return nil, api.ErrArg
	}
	for n > 1 && !someone(u, n/2, n) {
		n /= 2
		u = u[:2*n-1]
	}
	return u, api.OK
}

func modelUpdate(t []api.TNode, i int, l api.TNode) ([]api.TNode, api.Errno) {
	if !mayBe(t) || l.Kind != api.Leaf || len(l.Unmerged) > 0 {
		return nil, api.ErrArg
	}
	n := (len(t) + 1) / 2
	if i < 0 || i >= n || t[2*i].Kind == api.Blank {
		return nil, api.ErrNone
	}
	u := copied(t)
	for _, p := range way(i, n) {
		u[p.x] = api.TNode{}
	}
	u[2*i] = l
	return u, api.OK
}

func modelMembers(t []api.TNode) []int {
	var l []int
	for x := 0; mayBe(t) && x < len(t); x += 2 {
		if t[x].Kind == api.Leaf {
			l = append(l, x/2)
		}
	}
	return l
}

// text tells all of a tree: two trees have one text, if they have the same nodes.
func text(t []api.TNode) string {
	var b []byte
	for _, l := range t {
		for _, v := range []int{l.Kind, l.Id, l.Enc, l.Sig, l.Hash} {
			b = append(strconv.AppendInt(b, int64(v), 10), ',')
		}
		for _, v := range l.Unmerged {
			b = append(strconv.AppendInt(append(b, '+'), int64(v), 10), ',')
		}
		b = append(b, ';')
	}
	return string(b)
}

// draws are numbers that look drawn, the same ones each time.
type draws uint64

// below is a number from 0 on, below n.
func (d *draws) below(n int) int {
	*d = *d*6364136223846793005 + 1442695040888963407
	return int(uint64(*d)>>33) % n
}
