package deduce

import (
	"slices"

	"cassock/api"
	"cassock/term"
)

// view is an arena as it is seen by whoever has some of its terms: its nodes, and which terms can be derived.
type view struct {
	nodes []api.Node
	known []bool
}

// look is the view of whoever has l. It goes through the whole arena, as a Sig that was unblinded may stand anywhere in it.
func look(a *term.Arena, l []int) (*view, api.Errno) {
	if !terms(a, l...) {
		return nil, api.ErrArg
	}
	v := &view{nodes: make([]api.Node, a.Len())}
	for t := range v.nodes {
		v.nodes[t], _ = a.Node(t)
	}
	v.known = derived(v.nodes, l)
	return v, api.OK
}

// can tells whether all of l can be derived.
func (v *view) can(l ...int) bool {
	for _, t := range l {
		if !v.known[t] {
			return false
		}
	}
	return true
}

// opens tells whether n is a Seal of a Pub whose secret key can be derived.
func (v *view) opens(n api.Node) bool {
	sk, is := sealedTo(v.nodes, n)
	return is && v.can(sk)
}

// within tells of each term whether it is one of l, or one that these are made of.
func (v *view) within(l []int) []bool {
	in := make([]bool, len(v.nodes))
	for _, t := range l {
		in[t] = true
	}
	for t, n := range slices.Backward(v.nodes) { // a term is made of lesser ones alone
		if in[t] {
			for _, part := range n.L {
				in[part] = true
			}
		}
	}
	return in
}

// rule says that all of to can be derived once nothing is missing.
type rule struct {
	missing int
	to      []int
}

// derived tells of each term whether it can be derived of l. Each rule hears of each of the terms that it waits for just once, so that a long chain of terms, each of which opens the next, takes no longer than a short one for each of its links.
func derived(nodes []api.Node, l []int) []bool {
	known := make([]bool, len(nodes))
	waits := make([][]int, len(nodes))
	var rules []rule
	var todo []int
	know := func(l ...int) {
		for _, t := range l {
			if !known[t] {
				known[t] = true
				todo = append(todo, t)
			}
		}
	}
	eachRule(nodes, func(to []int, from ...int) {
		if len(from) == 0 {
			know(to...)
			return
		}
		for _, t := range from {
			waits[t] = append(waits[t], len(rules))
		}
		rules = append(rules, rule{len(from), to})
	})
	know(l...)
	for len(todo) > 0 {
		last := len(todo) - 1
		t := todo[last]
		todo = todo[:last]
		for _, r := range waits[t] {
			rules[r].missing--
			if rules[r].missing == 0 {
				know(rules[r].to...)
			}
		}
	}
	return known
}

// eachRule tells f each of the chapter's rules: once all of from can be derived, all of to can.
func eachRule(nodes []api.Node, f func(to []int, from ...int)) {
	sigs := signatures(nodes)
	for t, n := range nodes {
		if n.Op != api.Atom {
			f([]int{t}, n.L...)
		}
		switch n.Op {
		case api.List:
			f(n.L, t)
		case api.Seal:
			if sk, is := sealedTo(nodes, n); is {
				f(n.L[1:3], t, sk)
			}
		case api.Enc:
			f(n.L[1:], t, n.L[0])
		case api.Blind:
			f(n.L[:1], t, n.L[1])
		case api.Sig:
			f(n.L[1:], t)
			m := nodes[n.L[1]]
			if m.Op != api.Blind {
				continue
			}
			if s, is := sigs[[2]int{n.L[0], m.L[0]}]; is {
				f([]int{s}, t, m.L[1])
			}
		}
	}
}

// signatures are the Sigs that there are, by their keys and messages. (To ask the arena for one would make it.)
func signatures(nodes []api.Node) map[[2]int]int {
	sigs := map[[2]int]int{}
	for t, n := range nodes {
		if n.Op == api.Sig {
			sigs[[2]int{n.L[0], n.L[1]}] = t
		}
	}
	return sigs
}

// sealedTo tells whether n is a Seal of a Pub, and of which secret key.
func sealedTo(nodes []api.Node, n api.Node) (int, bool) {
	if n.Op != api.Seal {
		return 0, false
	}
	pk := nodes[n.L[0]]
	if pk.Op != api.Pub {
		return 0, false
	}
	return pk.L[0], true
}
