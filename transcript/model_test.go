package transcript_test

import (
	"strconv"
	"testing"

	"cassock/api"
	"cassock/term"
)

// The model makes its terms by the chapter's words, one by one; it stands on term alone.

// The ends of what an int can be.
const (
	greatest = 1<<63 - 1
	least    = -1 << 63
)

// model makes terms in an arena, and ends the test where one can't be made.
type model struct {
	testing.TB
	a *term.Arena
}

// start is a model of an arena that has the Atoms 0 to n - 1, which are the terms of these numbers.
func start(t testing.TB, n int) model {
	t.Helper()
	m := model{t, term.New()}
	for i := range n {
		m.atom(i)
	}
	return m
}

func (m model) make(n api.Node) int {
	m.Helper()
	x, e := m.a.Make(n)
	if e != api.OK {
		m.Fatalf("the model makes no %v: got %d", n, e)
	}
	return x
}

func (m model) atom(n int) int { return m.make(api.Node{Op: api.Atom, N: n}) }

func (m model) text(s string) int { return m.make(api.Node{Op: api.Text, S: s}) }

func (m model) list(l ...int) int { return m.make(api.Node{Op: api.List, L: l}) }

func (m model) confirmed(interim, content, sig int) int {
	return m.make(api.Node{Op: api.Hash, L: []int{m.list(interim, content, sig)}})
}

func (m model) tag(confirm, confirmed int) int {
	return m.make(api.Node{Op: api.Mac, L: []int{confirm, confirmed}})
}

func (m model) interim(confirmed, tag int) int {
	return m.make(api.Node{Op: api.Hash, L: []int{m.list(confirmed, tag)}})
}

func (m model) context(id, epoch, tree, confirmed, ext int) int {
	return m.list(m.text("group"), id, m.text(strconv.Itoa(epoch)), tree, confirmed, ext)
}

// behind is the interim hash behind these messages.
func (m model) behind(start int, l ...[3]int) int {
	if len(l) == 0 {
		return start
	}
	last := l[len(l)-1]
	c := m.confirmed(m.behind(start, l[:len(l)-1]...), last[0], last[1])
	return m.interim(c, m.tag(last[2], c))
}

// chain are the confirmed hashes of these messages.
func (m model) chain(start int, l ...[3]int) []int {
	var all []int
	interim := start
	for k, x := range l {
		all = append(all, m.confirmed(interim, x[0], x[1]))
		interim = m.behind(interim, l[k])
	}
	return all
}

// show is a term's text.
func (m model) show(x int) string {
	s, e := m.a.Show(x)
	if e != api.OK {
		return "none"
	}
	return s
}

// shown holds one term's text.
func (m model) shown(why, want string, x int, e api.Errno) {
	m.Helper()
	if got := m.show(x); got != want || e != api.OK {
		m.Errorf("%s: got %s, %d, not %s", why, got, e, want)
	}
}

// fill makes Atoms, till there is room for no more than these terms.
func (m model) fill(room int) {
	for n := 1 << 40; m.a.Len() < api.MaxTerms-room; n++ {
		m.atom(n)
	}
}

// kinds are terms of all kinds, of the term 0 and what stands for it.
func (m model) kinds() []int {
	l := []int{m.atom(0), m.text(""), m.text("group"), m.text("7"), m.list(), m.list(0)}
	for _, op := range []int{api.Hash, api.Pub} {
		l = append(l, m.make(api.Node{Op: op, L: []int{0}}))
	}
	for _, op := range []int{api.Mix, api.Sig, api.Mac, api.Blind} {
		l = append(l, m.make(api.Node{Op: op, L: []int{0, 0}}))
	}
	l = append(l, m.make(api.Node{Op: api.Key, L: []int{0, m.text("group"), 0}}))
	for _, op := range []int{api.Seal, api.Enc} {
		l = append(l, m.make(api.Node{Op: op, L: []int{0, 0, 0, 0}}))
	}
	return l
}

// draws are numbers that look drawn, the same ones each time.
type draws uint64

// below is a number from 0 on, below n.
func (d *draws) below(n int) int {
	*d = *d*6364136223846793005 + 1442695040888963407
	return int(uint64(*d)>>33) % n
}

// messages are n messages of drawn terms, below this number.
func (d *draws) messages(n, terms int) [][3]int {
	var l [][3]int
	for range n {
		l = append(l, [3]int{d.below(terms), d.below(terms), d.below(terms)})
	}
	return l
}
