package ratchet_test

import (
	"slices"
	"testing"

	"cassock/api"
	"cassock/ratchet"
)

// small goes through trees of 4 leaves: all leaves there or not, all Unmerged of some kinds, those that may be and others.
func small(do func(u []api.TNode)) {
	low := func(from int) []api.TNode {
		return []api.TNode{{}, parent(1), parent(1, from), parent(1, from+1), parent(1, from, from+1), parent(1, from+1, from), parent(1, 3-from)}
	}
	high := []api.TNode{{}, parent(3, 2, 1), parent(3, 0, 0), parent(3, 4)}
	for set := range 16 {
		high = append(high, parent(3, bits(set)...))
	}
	for set := range 16 {
		for _, left := range low(0) {
			for _, right := range low(2) {
				for _, root := range high {
					u := make([]api.TNode, 7)
					u[1], u[3], u[5] = left, root, right
					for _, i := range bits(set) {
						u[2*i] = leaf(i + 1)
					}
					do(u)
				}
			}
		}
	}
}

// bits are the numbers of those that are 1.
func bits(set int) []int {
	var l []int
	for i := range 4 {
		if set>>i&1 == 1 {
			l = append(l, i)
		}
	}
	return l
}

// agree holds all calls on u against the model's, and what they answer against what follows.
func agree(t *testing.T, u []api.TNode, i int) {
	t.Helper()
	was := text(u)
	if may := ratchet.Check(u) == api.OK; may != mayBe(u) {
		t.Fatalf("%s: Check: got %v", was, may)
	}
	if l := ratchet.Members(u); !slices.Equal(l, modelMembers(u)) {
		t.Fatalf("%s: Members: got %v", was, l)
	}
	v, at, e := ratchet.Add(u, leaf(9))
	w, want, f := modelAdd(u, leaf(9))
	if text(v) != text(w) || at != want || e != f {
		t.Fatalf("%s: Add: got %s, %d, %d", was, text(v), at, e)
	}
	follows(t, v, e)
	if e == api.OK {
		back, e := ratchet.Remove(v, at)
		if !othersSame(u, back) || e != api.OK {
			t.Fatalf("%s: Add and Remove: got %s, %d", was, text(back), e)
		}
	}
	v, e = ratchet.Remove(u, i)
	w, f = modelRemove(u, i)
	if text(v) != text(w) || e != f {
		t.Fatalf("%s: Remove of %d: got %s, %d", was, i, text(v), e)
	}
	follows(t, v, e)
	v, e = ratchet.Update(u, i, leaf(9))
	w, f = modelUpdate(u, i, leaf(9))
	if text(v) != text(w) || e != f {
		t.Fatalf("%s: Update of %d: got %s, %d", was, i, text(v), e)
	}
	follows(t, v, e)
	if text(u) != was {
		t.Fatalf("%s: it is %s now", was, text(u))
	}
}

// follows: each answers a tree that may be.
func follows(t *testing.T, u []api.TNode, e api.Errno) {
	t.Helper()
	if e == api.OK && !mayBe(u) || e != api.OK && len(u) > 0 {
		t.Fatalf("got %s, %d", text(u), e)
	}
}

// othersSame tells whether two trees of one length have the same leaves.
func othersSame(u, v []api.TNode) bool {
	for x := 0; x < len(u) && len(u) == len(v); x += 2 {
		if text(u[x:x+1]) != text(v[x:x+1]) {
			return false
		}
	}
	return len(u) == len(v)
}

func TestSmall(t *testing.T) {
	good, i := 0, 0
	small(func(u []api.TNode) {
		i = (i + 1) % 5
		agree(t, u, i)
		if mayBe(u) {
			good++
			for k := range 4 {
				agree(t, u, k)
			}
		}
	})
	if good < 500 {
		t.Errorf("only %d that may be", good)
	}
}

// renewed is u where all nodes above a member are Parents, as a commit leaves them; but every third one is Blank.
func renewed(u []api.TNode, i, round int) []api.TNode {
	v := copied(u)
	for k, p := range way(i, (len(u)+1)/2)[1:] {
		v[p.x] = api.TNode{}
		if (k+round)%3 != 0 {
			v[p.x] = parent(round)
		}
	}
	return v
}

// Members come and go, and renew what is above them, till the tree is full, and till it is empty again.
func TestComeAndGo(t *testing.T) {
	d, u, halved, greatest := draws(7), one(), 0, 0
	for round := range 3000 {
		l := ratchet.Members(u)
		i := l[d.below(len(l))]
		if round%25 == 0 {
			agree(t, u, d.below(260)-2)
			agree(t, u, i)
		}
		coming := 4
		if round > 1000 {
			coming = 1
		}
		was, e := u, api.OK
		switch c := d.below(10); {
		case c < coming:
			u, _, e = ratchet.Add(u, leaf(round))
			if e == api.ErrLong && len(l) == api.MaxLeaves {
				u, e = was, api.OK
			}
		case c < 5 && len(l) > 1:
			u, e = ratchet.Remove(u, i)
		case c < 6:
			u, e = ratchet.Update(u, i, leaf(round))
		default:
			u = renewed(u, i, round)
		}
		if e != api.OK || ratchet.Check(u) != api.OK {
			t.Fatalf("%d: got %s, %d", round, text(u), e)
		}
		if len(u) < len(was)/2 {
			halved++
		}
		greatest = max(greatest, len(ratchet.Members(u)))
	}
	if greatest < 200 || halved == 0 || len(u) > 63 {
		t.Errorf("at most %d members, halved more than once %d times, %d nodes left", greatest, halved, len(u))
	}
}

// ruin writes into all of a tree.
func ruin(u []api.TNode) {
	for x := range u {
		for k := range u[x].Unmerged {
			u[x].Unmerged[k] = -5
		}
		u[x] = api.TNode{Kind: 77, Id: 77, Unmerged: []int{77}}
	}
	for x := range u {
		_ = append(u[:x:x+1], api.TNode{Kind: 78})
	}
}

// makers are the calls that answer a tree, of one.
func makers() map[string]func(u []api.TNode) ([]api.TNode, api.Errno) {
	return map[string]func(u []api.TNode) ([]api.TNode, api.Errno){
		"Add": func(u []api.TNode) ([]api.TNode, api.Errno) {
			v, _, e := ratchet.Add(u, leaf(9))
			return v, e
		},
		"Remove":        func(u []api.TNode) ([]api.TNode, api.Errno) { return ratchet.Remove(u, 0) },
		"Remove of 7":   func(u []api.TNode) ([]api.TNode, api.Errno) { return ratchet.Remove(u, 7) },
		"Update":        func(u []api.TNode) ([]api.TNode, api.Errno) { return ratchet.Update(u, 5, leaf(9)) },
		"Apply of none": func(u []api.TNode) ([]api.TNode, api.Errno) { return ratchet.Apply(u) },
		"Apply of what hands on": func(u []api.TNode) ([]api.TNode, api.Errno) {
			return ratchet.Apply(u, func(v []api.TNode) ([]api.TNode, api.Errno) { return v, api.OK })
		},
		"Apply of Update": func(u []api.TNode) ([]api.TNode, api.Errno) {
			return ratchet.Apply(u, func(v []api.TNode) ([]api.TNode, api.Errno) { return ratchet.Update(v, 5, leaf(9)) })
		},
	}
}

// A tree that is handed in stays, whatever becomes of the answer; an answer stays, whatever becomes of what was handed in.
func TestNothingIsShared(t *testing.T) {
	for name, make := range makers() {
		// The tree has room behind its end, which is not its own.
		whole := append(rich(), rich()...)
		u := whole[:15]
		was := text(whole)
		v, e := make(u)
		if e != api.OK || text(whole) != was {
			t.Errorf("%s: got %d, %s", name, e, text(whole))
		}
		told := text(v)
		w, _ := make(u)
		ruin(w)
		if text(whole) != was || text(v) != told {
			t.Errorf("%s: what another call told changed %s, %s", name, text(whole), text(v))
		}
		ruin(u)
		if text(v) != told {
			t.Errorf("%s: what was handed in changed %s", name, text(v))
		}
	}
	// A full tree that grows, with room behind it.
	whole := append(grown(t, 4), grown(t, 8)...)
	was := text(whole)
	v, _, e := ratchet.Add(whole[:7], leaf(5))
	if ruin(v); e != api.OK || text(whole) != was {
		t.Errorf("got %d, %s", e, text(whole))
	}
	l := ratchet.Members(rich())
	clear(l)
	if !slices.Equal(ratchet.Members(rich()), modelMembers(rich())) {
		t.Errorf("Members share")
	}
}

// A leaf that is handed in has an Unmerged without numbers, but with room for some: that is not the tree's.
func TestLeafIsOwn(t *testing.T) {
	room := []int{4, 5}
	l := leaf(1)
	l.Unmerged = room[:0]
	u, _ := ratchet.New(l)
	v, _, _ := ratchet.Add(one(), l)
	w, _ := ratchet.Update(one(), 0, l)
	for _, k := range []api.TNode{u[0], v[2], w[0]} {
		_ = append(k.Unmerged, 9)
	}
	if !slices.Equal(room, []int{4, 5}) {
		t.Errorf("got %v", room)
	}
}
