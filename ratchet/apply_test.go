package ratchet_test

import (
	"slices"
	"testing"

	"cassock/api"
	"cassock/ratchet"
)

type change = func(u []api.TNode) ([]api.TNode, api.Errno)

func add(id int) change {
	return func(u []api.TNode) ([]api.TNode, api.Errno) {
		v, _, e := ratchet.Add(u, leaf(id))
		return v, e
	}
}

func remove(i int) change {
	return func(u []api.TNode) ([]api.TNode, api.Errno) { return ratchet.Remove(u, i) }
}

func told(u []api.TNode, e api.Errno) change {
	return func([]api.TNode) ([]api.TNode, api.Errno) { return u, e }
}

// ids are the names of who is in a tree.
func ids(u []api.TNode) []int {
	var l []int
	for _, i := range ratchet.Members(u) {
		l = append(l, u[2*i].Id)
	}
	return l
}

func TestApply(t *testing.T) {
	for _, c := range []struct {
		l    []change
		want []int
	}{
		{nil, []int{1, 2}},
		{[]change{add(3)}, []int{1, 2, 3}},
		{[]change{add(3), add(4), remove(0)}, []int{2, 3, 4}},
		{[]change{remove(0), add(3), add(4)}, []int{3, 2, 4}},
		{[]change{remove(1), add(3), remove(0)}, []int{3}},
		{[]change{told(one(), api.OK), add(5)}, []int{1, 5}},
		{[]change{add(5), told(one(), api.OK)}, []int{1}},
	} {
		if u, e := ratchet.Apply(grown(t, 2), c.l...); !slices.Equal(ids(u), c.want) || e != api.OK {
			t.Errorf("got %v, not %v; %d", ids(u), c.want, e)
		}
	}
	var none []change
	if u, e := ratchet.Apply(rich(), none...); text(u) != text(rich()) || e != api.OK {
		t.Errorf("got %v, %d", u, e)
	}
}

// The first error is told, and what is behind it isn't done.
func TestApplyErrs(t *testing.T) {
	done := 0
	count := func(u []api.TNode) ([]api.TNode, api.Errno) {
		done++
		return u, api.OK
	}
	for _, c := range []struct {
		l    []change
		want api.Errno
		done int
	}{
		{[]change{told(one(), api.ErrNone)}, api.ErrNone, 0},
		{[]change{count, told(one(), api.ErrLong), count}, api.ErrLong, 1},
		{[]change{count, count, told(nil, api.ErrSpent), told(nil, api.ErrNone)}, api.ErrSpent, 2},
		{[]change{told(one(), -7), told(nil, api.ErrNone)}, -7, 0},
		{[]change{remove(1), count, remove(1)}, api.ErrNone, 1},
		{[]change{remove(0), count, remove(1), count}, api.ErrArg, 1},
		{[]change{told(grown(t, 256), api.OK), count, add(1), count}, api.ErrLong, 1},
	} {
		done = 0
		if u, e := ratchet.Apply(grown(t, 2), c.l...); len(u) > 0 || e != c.want || done != c.done {
			t.Errorf("got %v, %d, %d done, not %v", u, e, done, c)
		}
	}
}

// What may not be is told by none, whatever a change tells.
func TestApplyTellsATreeThatMayBe(t *testing.T) {
	twisted := rich()
	twisted[7].Unmerged = []int{6, 3}
	for _, u := range [][]api.TNode{nil, {}, {{}}, {leaf(1), leaf(2)}, rich()[:14], rich()[8:], twisted} {
		if v, e := ratchet.Apply(rich(), told(u, api.OK)); len(v) > 0 || e != api.ErrArg {
			t.Errorf("%v: got %v, %d", u, v, e)
		}
		if v, e := ratchet.Apply(rich(), told(u, api.OK), add(1)); len(v) > 0 || e != api.ErrArg {
			t.Errorf("%v, and Add: got %v, %d", u, v, e)
		}
	}
}

// A change that is none, or that panics, is no change that may be; it is told in its turn.
func TestApplyDoesNotPanic(t *testing.T) {
	wild := func(u []api.TNode) ([]api.TNode, api.Errno) { return u[:1000], api.OK }
	loud := func([]api.TNode) ([]api.TNode, api.Errno) { panic("no") }
	for _, c := range []change{nil, wild, loud} {
		if u, e := ratchet.Apply(rich(), c); len(u) > 0 || e != api.ErrArg {
			t.Errorf("got %v, %d", u, e)
		}
		if u, e := ratchet.Apply(rich(), add(1), c, told(nil, api.ErrNone)); len(u) > 0 || e != api.ErrArg {
			t.Errorf("got %v, %d", u, e)
		}
		if u, e := ratchet.Apply(rich(), told(nil, api.ErrNone), c); len(u) > 0 || e != api.ErrNone {
			t.Errorf("got %v, %d", u, e)
		}
	}
}

// A change that writes into what it is handed changes neither the tree that was handed in nor what another change told.
func TestApplyHandsOutCopies(t *testing.T) {
	kept := grown(t, 2)
	write := func(u []api.TNode) ([]api.TNode, api.Errno) {
		v := copied(u)
		ruin(u)
		return v, api.OK
	}
	u := rich()
	if v, e := ratchet.Apply(u, write, write); text(v) != text(rich()) || e != api.OK || text(u) != text(rich()) {
		t.Errorf("got %v, %d; %v", v, e, u)
	}
	if v, e := ratchet.Apply(u, told(kept, api.OK), write); text(v) != text(grown(t, 2)) || e != api.OK || text(kept) != text(grown(t, 2)) {
		t.Errorf("got %v, %d; %v", v, e, kept)
	}
	// One that writes later into what it told, or was handed.
	var handed []api.TNode
	keep := func(u []api.TNode) ([]api.TNode, api.Errno) {
		handed = u
		return u, api.OK
	}
	v, _ := ratchet.Apply(u, keep)
	ruin(handed)
	w, _ := ratchet.Apply(u, told(kept, api.OK))
	ruin(kept)
	if text(v) != text(rich()) || text(w) != text(grown(t, 2)) {
		t.Errorf("got %v, %v", v, w)
	}
	x, _ := ratchet.Apply(u, keep, func([]api.TNode) ([]api.TNode, api.Errno) {
		ruin(handed)
		return rich(), api.OK
	})
	if text(x) != text(rich()) || text(u) != text(rich()) {
		t.Errorf("got %v, %v", x, u)
	}
}
