package schedule_test

import (
	"testing"

	"cassock/api"
	"cassock/term"
)

// The model makes its terms by the chapter's words, one by one; it stands on term alone.

// The ends of what an int can be.
const (
	greatest = 1<<63 - 1
	least    = -1 << 63
)

// model makes terms in an arena, and ends the test where one can't be made.
type model struct {
	testing.TB
	a *term.Arena
}

// start is a model of an arena that has the Atoms 0 to n - 1, which are the terms of these numbers.
func start(t testing.TB, n int) model {
	t.Helper()
	m := model{t, term.New()}
	for i := range n {
		m.atom(i)
	}
	return m
}

func (m model) make(n api.Node) int {
	m.Helper()
	x, e := m.a.Make(n)
	if e != api.OK {
		m.Fatalf("the model makes no %v: got %d", n, e)
	}
	return x
}

func (m model) atom(n int) int { return m.make(api.Node{Op: api.Atom, N: n}) }

func (m model) text(s string) int { return m.make(api.Node{Op: api.Text, S: s}) }

func (m model) mix(salt, secret int) int {
	return m.make(api.Node{Op: api.Mix, L: []int{salt, secret}})
}

func (m model) key(secret int, label string, context int) int {
	return m.make(api.Node{Op: api.Key, L: []int{secret, m.text(label), context}})
}

func (m model) derived(secret int, label string) int {
	return m.key(secret, label, m.make(api.Node{Op: api.List}))
}

func (m model) psk(l ...int) int {
	if len(l) == 0 {
		return m.text("")
	}
	last := len(l) - 1
	return m.mix(m.psk(l[:last]...), l[last])
}

func (m model) joiner(init, commit, context int) int {
	return m.key(m.mix(init, commit), "joiner", context)
}

func (m model) begun(joiner, psk, context int) api.Epoch {
	member := m.mix(joiner, psk)
	epoch := m.key(member, "epoch", context)
	return api.Epoch{
		Joiner:     joiner,
		Welcome:    m.derived(member, "welcome"),
		Epoch:      epoch,
		Sender:     m.derived(epoch, "sender"),
		Encryption: m.derived(epoch, "encryption"),
		Exporter:   m.derived(epoch, "exporter"),
		Confirm:    m.derived(epoch, "confirm"),
		Membership: m.derived(epoch, "membership"),
		Resumption: m.derived(epoch, "resumption"),
		External:   m.make(api.Node{Op: api.Pub, L: []int{m.derived(epoch, "external")}}),
		Init:       m.derived(epoch, "init"),
	}
}

func (m model) next(init, commit, context int, psks ...int) api.Epoch {
	return m.begun(m.joiner(init, commit, context), m.psk(psks...), context)
}

func (m model) exported(e api.Epoch, label string, context int) int {
	return m.key(m.derived(e.Exporter, label), "exported", context)
}

// show is a term's text.
func (m model) show(x int) string {
	s, e := m.a.Show(x)
	if e != api.OK {
		return "none"
	}
	return s
}

// fill makes Atoms, till there is room for no more than these terms.
func (m model) fill(room int) {
	for n := 1 << 40; m.a.Len() < api.MaxTerms-room; n++ {
		m.atom(n)
	}
}

// draws are numbers that look drawn, the same ones each time.
type draws uint64

// below is a number from 0 on, below n.
func (d *draws) below(n int) int {
	*d = *d*6364136223846793005 + 1442695040888963407
	return int(uint64(*d)>>33) % n
}
