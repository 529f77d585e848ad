package schedule_test

import (
	"slices"
	"strings"
	"testing"

	"cassock/api"
	"cassock/schedule"
)

// In an arena that is full what is there is answered; what is not there is too much.
func TestFullArena(t *testing.T) {
	m := start(t, 7)
	s := m.next(0, 1, 2, 3, 4, 5)
	none := m.next(0, 1, 2)
	exported := m.exported(s, "what for", 6)
	bare := m.begun(5, 6, 0)
	m.fill(0)
	if x, e := schedule.Next(m.a, 0, 1, 2, 3, 4, 5); x != s || e != api.OK {
		t.Errorf("got %v, %d", x, e)
	}
	if x, e := schedule.Next(m.a, 0, 1, 2); x != none || e != api.OK {
		t.Errorf("got %v, %d", x, e)
	}
	if x, e := schedule.Begin(m.a, 5, 6, 0); x != bare || e != api.OK {
		t.Errorf("got %v, %d", x, e)
	}
	if x, e := schedule.Export(m.a, s, "what for", 6); x != exported || e != api.OK {
		t.Errorf("got %d, %d", x, e)
	}
	if x, e := schedule.Psk(m.a); m.show(x) != `""` || e != api.OK {
		t.Errorf("got %d, %d", x, e)
	}
	for _, c := range calls() {
		l := make([]int, c.args)
		for i := range l {
			l[i] = 6 - i%2
		}
		c.refuses(t, "what is not there", api.ErrLong, m.a, l)
		// What is no term is told first, also where there is no room ahead of it.
		for i := range l {
			for _, x := range []int{-1, api.MaxTerms, api.MaxTerms + 1, greatest, least} {
				v := slices.Clone(l)
				v[i] = x
				c.refuses(t, "no term", api.ErrArg, m.a, v)
			}
		}
		if m.a.Len() != api.MaxTerms {
			t.Errorf("%s: %d terms", c.name, m.a.Len())
		}
	}
	if x, e := schedule.Export(m.a, s, strings.Repeat("x", api.MaxText+1), 6); x != 0 || e != api.ErrArg {
		t.Errorf("a label too long: got %d, %d", x, e)
	}
	if x, e := schedule.Export(m.a, s, "what for", 5); x != 0 || e != api.ErrLong {
		t.Errorf("another context: got %d, %d", x, e)
	}
	if x, e := schedule.Export(m.a, s, "nothing", 6); x != 0 || e != api.ErrLong {
		t.Errorf("another label: got %d, %d", x, e)
	}
}

// In one that is full and has nothing but Atoms there is no Text, either.
func TestFullOfAtoms(t *testing.T) {
	m := start(t, 7)
	m.fill(0)
	if x, e := schedule.Psk(m.a); x != 0 || e != api.ErrLong {
		t.Errorf("got %d, %d", x, e)
	}
	for _, c := range calls() {
		c.refuses(t, "nothing is there", api.ErrLong, m.a, make([]int, c.args))
	}
}

// Also one that runs full on the way, wherever that is; with just room enough all is made.
func TestNearlyFullArena(t *testing.T) {
	for _, c := range calls() {
		if c.name == "Psk of many" || c.name == "Next of none" || c.name == "Export of no label" {
			continue
		}
		l := make([]int, c.args)
		for i := range l {
			l[i] = i
		}
		m := start(t, 7)
		c.do(m.a, l)
		needs := m.a.Len() - 7
		for room := range needs {
			m := start(t, 7)
			m.fill(room)
			for range 2 {
				c.refuses(t, "too little room", api.ErrLong, m.a, l)
			}
		}
		m = start(t, 7)
		m.fill(needs)
		if got, e := c.do(m.a, l); e != api.OK || m.a.Len() != api.MaxTerms {
			t.Errorf("%s: got %v, %d, of %d terms", c.name, got, e, m.a.Len())
		}
	}
}

// What can't be made is told, also where what would be made of it, were it the term 0, is there.
func TestNothingOfWhatIsNotThere(t *testing.T) {
	m := start(t, 7)
	s := m.next(0, 1, 2)
	m.mix(0, 4)
	m.joiner(0, 0, 2)
	m.key(0, "joiner", 2)
	m.key(0, "exported", 2)
	m.begun(0, m.psk(), 2)
	m.begun(s.Joiner, 0, 2)
	m.begunOf(0, 2, "")
	m.fill(0)
	if x, e := schedule.Psk(m.a, 3, 4); x != 0 || e != api.ErrLong {
		t.Errorf("Psk: got %d, %d", x, e)
	}
	if x, e := schedule.Joiner(m.a, 5, 6, 2); x != 0 || e != api.ErrLong {
		t.Errorf("Joiner: got %d, %d", x, e)
	}
	if x, e := schedule.Begin(m.a, 5, 6, 2); x != (api.Epoch{}) || e != api.ErrLong {
		t.Errorf("Begin: got %v, %d", x, e)
	}
	if x, e := schedule.Next(m.a, 5, 6, 2); x != (api.Epoch{}) || e != api.ErrLong {
		t.Errorf("Next, no Joiner: got %v, %d", x, e)
	}
	if x, e := schedule.Next(m.a, 0, 1, 2, 5); x != (api.Epoch{}) || e != api.ErrLong {
		t.Errorf("Next, no Psk: got %v, %d", x, e)
	}
	if x, e := schedule.Export(m.a, s, "what for", 2); x != 0 || e != api.ErrLong {
		t.Errorf("Export: got %d, %d", x, e)
	}
}

// begunOf makes all that an epoch of this member secret has, but for one field.
func (m model) begunOf(member, context int, but string) {
	label := map[string]string{}
	for _, f := range fields() {
		label[f.name] = strings.ToLower(f.name)
	}
	epoch := m.key(member, "epoch", context)
	for name, l := range label {
		switch {
		case name == but || name == "Joiner" || name == "Epoch":
			m.text(l)
		case name == "Welcome":
			m.derived(member, l)
		case name == "External":
			m.make(api.Node{Op: api.Pub, L: []int{m.derived(epoch, l)}})
		default:
			m.derived(epoch, l)
		}
	}
	m.make(api.Node{Op: api.Pub, L: []int{0}})
}

// Each field is needed.
func TestOneFieldIsNotThere(t *testing.T) {
	for _, f := range append(fields(), field{name: "none"}) {
		if f.name == "Joiner" || f.name == "Epoch" {
			continue
		}
		m := start(t, 7)
		m.begunOf(m.mix(5, 6), 2, f.name)
		m.fill(0)
		s, e := schedule.Begin(m.a, 5, 6, 2)
		if f.name == "none" && (s != m.begun(5, 6, 2) || e != api.OK) {
			t.Errorf("all: got %v, %d", s, e)
		}
		if f.name != "none" && (s != api.Epoch{} || e != api.ErrLong) {
			t.Errorf("no %s: got %v, %d", f.name, s, e)
		}
	}
}
