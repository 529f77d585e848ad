package transcript_test

import (
	"slices"
	"strings"
	"testing"

	"cassock/api"
	"cassock/transcript"
)

// In an arena that is full what is there is answered; what is not there is too much.
func TestFullArena(t *testing.T) {
	m := start(t, 7)
	l := [][3]int{{1, 2, 3}, {4, 5, 6}, {0, 0, 0}}
	none, confirmed, tag, interim := m.text(""), m.confirmed(0, 1, 2), m.tag(3, 4), m.interim(5, 6)
	context, chain := m.context(0, 12, 1, 2, 3), m.chain(0, l...)
	m.behind(0, l...)
	great := m.context(0, 1000000000, 1, 2, 3)
	m.fill(0)
	if x, e := transcript.Start(m.a); x != none || e != api.OK {
		t.Errorf("Start: got %d, %d", x, e)
	}
	if x, e := transcript.Confirmed(m.a, 0, 1, 2); x != confirmed || e != api.OK {
		t.Errorf("Confirmed: got %d, %d", x, e)
	}
	if x, e := transcript.Tag(m.a, 3, 4); x != tag || e != api.OK {
		t.Errorf("Tag: got %d, %d", x, e)
	}
	if x, e := transcript.Interim(m.a, 5, 6); x != interim || e != api.OK {
		t.Errorf("Interim: got %d, %d", x, e)
	}
	if x, e := transcript.Context(m.a, 0, 12, 1, 2, 3); x != context || e != api.OK {
		t.Errorf("Context: got %d, %d", x, e)
	}
	if x, e := transcript.Read(m.a, context); x != [5]int{0, 12, 1, 2, 3} || e != api.OK {
		t.Errorf("Read: got %v, %d", x, e)
	}
	if x, e := transcript.Chain(m.a, 0, l...); !slices.Equal(x, chain) || e != api.OK {
		t.Errorf("Chain: got %v, %d, not %v", x, e, chain)
	}
	if x, e := transcript.Chain(m.a, 0); len(x) != 0 || e != api.OK {
		t.Errorf("Chain of none: got %v, %d", x, e)
	}
	m.unread("a great epoch", great)
	m.unread("an Atom", api.MaxTerms-1)
	m.unread("no term", api.MaxTerms)
	for _, x := range []int{-1, -12, least} {
		if x, e := transcript.Context(m.a, 0, x, 1, 2, 3); x != 0 || e != api.ErrArg {
			t.Errorf("an epoch below 0: got %d, %d", x, e)
		}
	}
	for _, c := range calls() {
		c.refuses(t, "what is not there", api.ErrLong, m.a, slices.Repeat([]int{6}, c.args))
		if m.a.Len() != api.MaxTerms {
			t.Errorf("%s: %d terms", c.name, m.a.Len())
		}
	}
}

// What is no term is told first, also where there is no room; of Chain what the first call that has an error tells.
func TestFullArenaOfNoTerm(t *testing.T) {
	m := start(t, 7)
	m.fill(0)
	if x, e := transcript.Start(m.a); x != 0 || e != api.ErrLong {
		t.Errorf("got %d, %d", x, e)
	}
	for _, c := range calls() {
		c.refuses(t, "nothing is there", api.ErrLong, m.a, make([]int, c.args))
		for i := range c.args {
			for _, x := range []int{-1, api.MaxTerms, api.MaxTerms + 1, greatest, least} {
				l := some(c.args)
				l[i] = x
				want := api.ErrArg
				if strings.HasPrefix(c.name, "Chain") && i > 2 {
					want = api.ErrLong
				}
				c.refuses(t, "no term", want, m.a, l)
			}
		}
	}
}

// Also one that runs full on the way, wherever that is, at the last message's Tag and Interim, too; with just room enough all is made.
func TestNearlyFullArena(t *testing.T) {
	for _, c := range calls() {
		if c.name == "Chain of two" || c.name == "Context of the last epoch" {
			continue
		}
		l := make([]int, c.args)
		for i := range l {
			l[i] = i % 7
		}
		m := start(t, 7)
		c.do(m.a, l)
		needs := m.a.Len() - 7
		for room := range needs {
			m := start(t, 7)
			m.fill(room)
			for range 2 {
				c.refuses(t, "too little room", api.ErrLong, m.a, l)
			}
		}
		m = start(t, 7)
		m.fill(needs)
		if got, e := c.do(m.a, l); e != api.OK || m.a.Len() != api.MaxTerms {
			t.Errorf("%s: got %v, %d, of %d terms", c.name, got, e, m.a.Len())
		}
	}
}

// Which error is the first: that of the first message whose Confirmed, Tag or Interim has one.
func TestFirstErrorOfChain(t *testing.T) {
	l := [][3]int{{1, 2, 3}, {4, 5, 6}}
	for _, c := range []struct {
		why           string
		room          int
		message, part int
		want          api.Errno
	}{
		{"no room for the first Interim, no content behind it", 4, 1, 0, api.ErrLong},
		{"no room for the first Tag, no sig behind it", 2, 1, 1, api.ErrLong},
		{"no room for the first Confirmed, no secret of its own", 1, 0, 2, api.ErrLong},
		{"room for the first Confirmed alone, no secret of its own", 2, 0, 2, api.ErrArg},
		{"room for the first message alone, no content behind it", 5, 1, 0, api.ErrArg},
		{"room for the first message alone, no sig behind it", 5, 1, 1, api.ErrArg},
		{"room for the first message alone, no secret behind it", 5, 1, 2, api.ErrLong},
		{"room for the second Confirmed, no secret of its own", 7, 1, 2, api.ErrArg},
	} {
		for _, x := range []int{-1, api.MaxTerms - c.room, api.MaxTerms, greatest} {
			m := start(t, 7)
			m.fill(c.room)
			v := slices.Clone(l)
			v[c.message][c.part] = x
			if got, e := transcript.Chain(m.a, 0, v...); len(got) != 0 || e != c.want {
				t.Errorf("%s, %d: got %v, %d, not %d", c.why, x, got, e, c.want)
			}
		}
	}
}

// hash is that of what is there of a List.
func (m model) hash(x int) int { return m.make(api.Node{Op: api.Hash, L: []int{x}}) }

// What can't be made is told, also where what would be made of it, were it the term 0, is there.
func TestNothingOfWhatIsNotThere(t *testing.T) {
	m := start(t, 7)
	m.hash(0)
	m.list(4, 5, 6)
	m.list(4, 5)
	m.fill(0)
	if x, e := transcript.Confirmed(m.a, 1, 2, 3); x != 0 || e != api.ErrLong {
		t.Errorf("Confirmed, no List: got %d, %d", x, e)
	}
	if x, e := transcript.Interim(m.a, 1, 2); x != 0 || e != api.ErrLong {
		t.Errorf("Interim, no List: got %d, %d", x, e)
	}
	if x, e := transcript.Confirmed(m.a, 4, 5, 6); x != 0 || e != api.ErrLong {
		t.Errorf("Confirmed, no Hash: got %d, %d", x, e)
	}
	if x, e := transcript.Interim(m.a, 4, 5); x != 0 || e != api.ErrLong {
		t.Errorf("Interim, no Hash: got %d, %d", x, e)
	}
}

func TestContextOfWhatIsNotThere(t *testing.T) {
	for _, c := range []struct {
		why   string
		texts []string
	}{
		{"no text", nil}, {"no mark", []string{"12"}}, {"no epoch", []string{"group"}}, {"no List", []string{"group", "12"}},
	} {
		m := start(t, 7)
		two := []int{0, 0}
		for _, s := range c.texts {
			if s == "group" {
				two[0] = m.text(s)
			} else {
				two[1] = m.text(s)
			}
		}
		if len(c.texts) < 2 {
			m.list(two[0], 1, two[1], 2, 3, 4)
		}
		m.fill(0)
		if x, e := transcript.Context(m.a, 1, 12, 2, 3, 4); x != 0 || e != api.ErrLong {
			t.Errorf("%s: got %d, %d", c.why, x, e)
		}
	}
}

// Of each message all three are asked for, also of the last.
func TestChainOfWhatIsNotThere(t *testing.T) {
	l := [][3]int{{1, 2, 3}, {4, 5, 6}}
	second := func(m model) int { return m.confirmed(m.behind(0, l[0]), 4, 5) }
	for _, c := range []struct {
		why  string
		make func(m model)
	}{
		{"the first Confirmed", func(m model) {
			m.behind(m.interim(0, m.tag(3, 0)), l[1])
		}},
		{"the first Tag", func(m model) {
			m.behind(m.interim(m.confirmed(0, 1, 2), 0), l[1])
		}},
		{"the first Interim", func(m model) {
			m.tag(3, m.confirmed(0, 1, 2))
			m.behind(0, l[1])
		}},
		{"the second Confirmed", func(m model) {
			m.behind(0, l[0])
			m.interim(0, m.tag(6, 0))
		}},
		{"the second Tag", func(m model) {
			m.interim(second(m), 0)
		}},
		{"the second Interim", func(m model) {
			m.tag(6, second(m))
		}},
		{"the second Interim's Hash", func(m model) {
			x := second(m)
			m.list(x, m.tag(6, x))
		}},
	} {
		m := start(t, 7)
		c.make(m)
		m.fill(0)
		if got, e := transcript.Chain(m.a, 0, l...); len(got) != 0 || e != api.ErrLong {
			t.Errorf("%s: got %v, %d", c.why, got, e)
		}
	}
}
