package schedule_test

import (
	"slices"
	"testing"

	"cassock/api"
	"cassock/deduce"
	"cassock/schedule"
)

// can tells whether a term can be derived of others.
func (m model) can(goal int, of ...int) bool {
	m.Helper()
	is, e := deduce.Derives(m.a, of, goal)
	if e != api.OK {
		m.Fatalf("Derives %d: got %d", goal, e)
	}
	return is
}

func (m model) nexts(init, commit, context int, psks ...int) api.Epoch {
	m.Helper()
	s, e := schedule.Next(m.a, init, commit, context, psks...)
	if e != api.OK {
		m.Fatalf("Next: got %d", e)
	}
	return s
}

// holdsDerived holds which of an epoch's, by their names, can be derived of what one knows, and that no other one can; External is what all may know.
func (m model) holdsDerived(why string, s api.Epoch, names []string, of ...int) {
	m.Helper()
	for _, f := range fields() {
		if want := slices.Contains(names, f.name); f.name != "External" && m.can(f.of(s), of...) != want {
			m.Errorf("%s: %s can be derived: %t, not %t", why, f.name, !want, want)
		}
	}
}

// all are the names of what Inner is to list.
func all() []string {
	var l []string
	for _, f := range fields() {
		if f.name != "External" {
			l = append(l, f.name)
		}
	}
	return l
}

// Without init, or without commit, nothing; with both, and what was shared, all.
func TestWithoutInitOrCommit(t *testing.T) {
	for _, psks := range [][]int{nil, {3}, {3, 4}, {3, 3, 4}} {
		m := start(t, 6)
		s := m.nexts(0, 1, 2, psks...)
		m.holdsDerived("nothing", s, nil)
		m.holdsDerived("init", s, nil, 0, 2, 3, 4, 5, s.External)
		m.holdsDerived("commit", s, nil, 1, 2, 3, 4, 5, s.External)
		m.holdsDerived("neither", s, nil, 2, 3, 4, 5, s.External)
		m.holdsDerived("both", s, all(), 0, 1, 2, 3, 4)
		if m.can(s.External, 0, 2, 3, 4, 5) || m.can(s.External, 1, 2, 3, 4, 5) || !m.can(s.External, 0, 1, 2, 3, 4) {
			t.Errorf("%v: External", psks)
		}
		// Joiner has all that is behind it, but neither of what it is of.
		m.holdsDerived("joiner", s, all(), s.Joiner, 2, 3, 4)
		if m.can(0, s.Joiner, 2, 3, 4) || m.can(1, s.Joiner, 2, 3, 4) {
			t.Errorf("%v: init or commit of Joiner", psks)
		}
		// Context is part of all but Joiner's own epoch's member secret, and of what is derived of that.
		m.holdsDerived("joiner without context", s, []string{"Joiner", "Welcome"}, s.Joiner, 3, 4)
		m.holdsDerived("both without context", s, nil, 0, 1, 3, 4)
	}
}

// Without one of those that were shared there is nothing behind Joiner.
func TestWithoutShared(t *testing.T) {
	m := start(t, 7)
	s := m.nexts(0, 1, 2, 3, 4, 5)
	for _, lacks := range []int{3, 4, 5} {
		l := slices.DeleteFunc([]int{0, 1, 2, 3, 4, 5, 6}, func(x int) bool { return x == lacks })
		m.holdsDerived("one lacks", s, []string{"Joiner"}, append(l, s.External)...)
	}
	// What Psk is of all of them does for them.
	m.holdsDerived("Psk", s, all(), 0, 1, 2, m.psk(3, 4, 5))
	m.holdsDerived("Psk of two", s, []string{"Joiner"}, 0, 1, 2, m.psk(3, 4))
	m.holdsDerived("Psk of two, and one", s, all(), 0, 1, 2, m.psk(3, 4), 5)
}

// With one of those that are derived of Epoch alone no other one can be; Epoch has all that are.
func TestOneAlone(t *testing.T) {
	m := start(t, 6)
	s := m.nexts(0, 1, 2, 3)
	x, e := schedule.Export(m.a, s, "l", 2)
	y, f := schedule.Export(m.a, s, "m", 2)
	if e != api.OK || f != api.OK {
		t.Fatalf("got %d, %d", e, f)
	}
	behind := []string{"Sender", "Encryption", "Exporter", "Confirm", "Membership", "Resumption", "Init"}
	for _, f := range fields() {
		want := []string{f.name}
		if f.name == "Epoch" {
			want = append(want, behind...)
		}
		if f.name == "Joiner" {
			want = all()
		}
		m.holdsDerived(f.name, s, want, f.of(s), 2, 3, 4, 5, s.External)
	}
	// Of External itself nothing; of what it is of nothing but External.
	external := m.derived(s.Epoch, "external")
	m.holdsDerived("External", s, nil, external, 2, 3)
	if !m.can(s.External, external) || m.can(external, s.External, 2, 3, s.Sender, s.Init) || !m.can(external, s.Epoch) {
		t.Error("External")
	}
	// What is exported tells neither Exporter nor what else is.
	m.holdsDerived("exported", s, nil, x, 2, 3)
	if m.can(y, x, 2) || !m.can(x, s.Exporter, 2) || !m.can(y, s.Exporter, 2) || m.can(x, s.Sender, s.Init, s.Resumption, y, 2) {
		t.Error("what is exported")
	}
}

// One epoch leads on to the next: who has all of one has nothing of those ahead, nor of those behind without a commit.
func TestChainOfEpochs(t *testing.T) {
	m := start(t, 40)
	var l []api.Epoch
	init := 0
	for n := range 6 {
		l = append(l, m.nexts(init, 10+n, 20+n, 30))
		init = l[n].Init
	}
	for k, s := range l {
		of := append(schedule.Inner(s), 20, 21, 22, 23, 24, 25, 30)
		for n, x := range l {
			if n == k {
				m.holdsDerived("its own", x, all(), of...)
				continue
			}
			m.holdsDerived("another one's", x, nil, of...)
			// With the commits behind it all that come.
			later := append(slices.Clone(of), 11, 12, 13, 14, 15)
			if n > k {
				m.holdsDerived("one behind it", x, all(), later...)
			} else {
				m.holdsDerived("one ahead of it", x, nil, later...)
			}
		}
	}
}

// Two epochs that differ in one argument alone have no secret in common; but what was shared is no part of Joiner.
func TestEpochsDiffer(t *testing.T) {
	m := start(t, 10)
	s := m.nexts(0, 1, 2, 3, 4)
	same := func(why string, x api.Epoch, want ...string) {
		t.Helper()
		for _, f := range fields() {
			for _, g := range fields() {
				if is := f.name == g.name && slices.Contains(want, f.name); (f.of(s) == g.of(x)) != is {
					t.Errorf("%s: %s and %s: %d, %d", why, f.name, g.name, f.of(s), g.of(x))
				}
			}
		}
	}
	same("init", m.nexts(5, 1, 2, 3, 4))
	same("commit", m.nexts(0, 5, 2, 3, 4))
	same("context", m.nexts(0, 1, 5, 3, 4))
	same("init and commit exchanged", m.nexts(1, 0, 2, 3, 4))
	for _, psks := range [][]int{nil, {3}, {4}, {4, 3}, {3, 5}, {5, 4}, {3, 4, 4}, {3, 3, 4}, {3, 4, m.text("")}, {m.psk(3, 4)}} {
		same("what was shared", m.nexts(0, 1, 2, psks...), "Joiner")
	}
	// Of Begin Welcome is none of the context's.
	b := func(joiner, psk, context int) api.Epoch {
		x, e := schedule.Begin(m.a, joiner, psk, context)
		if e != api.OK {
			t.Fatalf("got %d", e)
		}
		return x
	}
	s = b(0, 1, 2)
	same("joiner", b(5, 1, 2))
	same("psk", b(0, 5, 2), "Joiner")
	same("context", b(0, 1, 5), "Joiner", "Welcome")
	same("none", b(0, 1, 2), append(all(), "External")...)
}

// What is asked again is the same, and makes nothing.
func TestAskedAgain(t *testing.T) {
	for _, c := range calls() {
		m := start(t, 7)
		l := make([]int, c.args)
		for i := range l {
			l[i] = (2*i + 1) % 7
		}
		want, e := c.do(m.a, l)
		if e != api.OK {
			t.Fatalf("%s: got %d", c.name, e)
		}
		m.nexts(6, 5, 4)
		n := m.a.Len()
		for range 3 {
			if got, e := c.do(m.a, l); !slices.Equal(got, want) || e != api.OK || m.a.Len() != n {
				t.Errorf("%s: got %v, %d, not %v; %d terms, not %d", c.name, got, e, want, m.a.Len(), n)
			}
		}
	}
}

// What is handed in stays as it was, also behind its end, and may be written into behind the call.
func TestHandedInStays(t *testing.T) {
	m := start(t, 9)
	l := []int{3, 4, 5, 6, 7, 8}
	x, e := schedule.Psk(m.a, l[:3]...)
	s, f := schedule.Next(m.a, 0, 1, 2, l[:3]...)
	if e != api.OK || f != api.OK || !slices.Equal(l, []int{3, 4, 5, 6, 7, 8}) {
		t.Errorf("got %d, %d, %v", e, f, l)
	}
	for i := range l {
		l[i] = -9
	}
	m.shown("Psk", `mix(mix(mix("",#3),#4),#5)`, x, e)
	if want := m.next(0, 1, 2, 3, 4, 5); s != want {
		t.Errorf("got %v, not %v", s, want)
	}
	l = []int{3, -1, 5, 6}
	if _, e := schedule.Next(m.a, 0, 1, 2, l[:3]...); e != api.ErrArg || !slices.Equal(l, []int{3, -1, 5, 6}) {
		t.Errorf("got %d, %v", e, l)
	}
}

// What Inner answers is the caller's own.
func TestAnswersAreOnesOwn(t *testing.T) {
	m := start(t, 3)
	s := m.nexts(0, 1, 2)
	was := s
	want := slices.Clone(schedule.Inner(s))
	x, y := schedule.Inner(s), schedule.Inner(s)
	for i := range x[:cap(x)] {
		x[:cap(x)][i] = -9
	}
	x = append(x, -8)
	if again := schedule.Inner(s); !slices.Equal(y, want) || !slices.Equal(again, want) || s != was {
		t.Errorf("got %v, %v, not %v", y, again, want)
	}
	if again := m.nexts(0, 1, 2); again != s {
		t.Errorf("got %v, not %v", again, s)
	}
}
