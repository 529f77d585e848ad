package treehash_test

import (
	"testing"

	"cassock/api"
)

// Who is on a path says of the next Parent above what there is to say, till someone changes one of them.
func TestValid(t *testing.T) {
	m := model{t, arena(room)}
	u := grown(4)
	valid(t, m.a, u, true)
	u[3] = parent(3)
	valid(t, m.a, u, false)

	// The child is Blank: a leaf of its resolution says it, whichever it is.
	byLeft, byRight := m.vouches(u, 3)
	for i, want := range []int{byLeft, byLeft, byRight, byRight} {
		v := copied(u)
		v[2*i].Hash = want
		valid(t, m.a, v, true)
		v[2*i].Hash = byLeft + byRight - want
		valid(t, m.a, v, false)
		v[2*i] = api.TNode{}
		v[2*(i^1)].Hash = want
		if i < 2 {
			// Who goes changes what those of the other half have to say alone.
			valid(t, m.a, v, true)
		}
	}

	// The child is a Parent: it says it itself, and who is under it can't, but who is Unmerged.
	u[1] = parent(1)
	byLeft, _ = m.vouches(u, 3)
	v := copied(u)
	v[0].Hash, v[2].Hash = byLeft, byLeft
	valid(t, m.a, v, false)
	v = copied(u)
	v[1].Hash = byLeft
	// Nobody says anything of 1 still.
	valid(t, m.a, v, false)
	v[2].Hash, _ = m.vouches(v, 1)
	valid(t, m.a, v, false)
	_, v[2].Hash = m.vouches(v, 1)
	valid(t, m.a, v, true)
	v[3].Unmerged = []int{3}
	valid(t, m.a, v, false)
	v[1].Hash, _ = m.vouches(v, 3)
	_, v[2].Hash = m.vouches(v, 1)
	valid(t, m.a, v, true)
	v[1].Hash, v[1].Unmerged = 0, []int{0}
	v[0].Hash, _ = m.vouches(v, 3)
	_, v[2].Hash = m.vouches(v, 1)
	valid(t, m.a, v, true)

	// Of two Parents one is not vouched for.
	v[5] = parent(5, 3)
	v[0].Hash, _ = m.vouches(v, 3)
	_, v[2].Hash = m.vouches(v, 1)
	valid(t, m.a, v, false)
	_, v[6].Hash = m.vouches(v, 5)
	v[0].Hash, _ = m.vouches(v, 3)
	_, v[2].Hash = m.vouches(v, 1)
	valid(t, m.a, v, true)
}

// What a node says of another one than the next above doesn't count.
func TestSaidOfAnother(t *testing.T) {
	m := model{t, arena(room)}
	u := m.committed(grown(8), 5, 110)
	valid(t, m.a, u, true)
	for x := range u {
		for y := range u {
			v := copied(u)
			v[x].Hash, v[y].Hash = v[y].Hash, v[x].Hash
			if v[x].Kind != api.Blank && v[y].Kind != api.Blank {
				valid(t, m.a, v, m.valid(v))
			}
		}
	}
	for _, x := range []int{10, 9, 11} {
		v := copied(u)
		v[x].Hash = 0
		valid(t, m.a, v, false)
	}
	// The highest one says nothing, whatever stands there; but the one below it speaks of it.
	v := copied(u)
	v[7].Hash = 0
	valid(t, m.a, v, false)
	v[11].Hash, _ = m.vouches(v, 7)
	if _, v[11].Hash = m.vouches(v, 7); m.valid(v) {
		t.Errorf("%s: who is below has not heard of it", text(v))
	}
	valid(t, m.a, v, false)
}

// All small trees, in which this or that node says what there is to say of this or that Parent.
func TestValidSmall(t *testing.T) {
	d, m, times := draws(9), model{t, arena(room)}, map[bool]int{}
	small(func(u []api.TNode) {
		for range 6 {
			x := []int{1, 3, 5}[d.below(3)]
			if u[x].Kind == api.Parent {
				u = m.said(u, x, &d)
			}
			want := m.valid(u)
			valid(t, m.a, u, want)
			times[want]++
		}
	})
	if times[false] < 500 || times[true] < 500 {
		t.Errorf("%d are not, %d are", times[false], times[true])
	}
}

// said is u where a node that is drawn, of the resolution of one of x's children, says of x what that child, or at times the other one, has to say.
func (m model) said(u []api.TNode, x int, d *draws) []api.TNode {
	left, right := at(u, x).halves()
	what, other := m.vouches(u, x)
	l := resolution(u, left)
	if d.below(2) == 0 {
		l, what, other = resolution(u, right), other, what
	}
	if d.below(12) == 0 {
		what = other
	}
	v := copied(u)
	if len(l) > 0 {
		v[l[d.below(len(l))]].Hash = what
	}
	return v
}

// Of a tree without Parents there is nothing to say.
func TestValidWithoutParents(t *testing.T) {
	a := arena(room)
	valid(t, a, grown(1), true)
	valid(t, a, among(8, 0, 7), true)
	valid(t, a, grown(16), true)
}
