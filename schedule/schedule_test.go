package schedule_test

import (
	"slices"
	"strings"
	"testing"

	"cassock/api"
	"cassock/schedule"
	"cassock/term"
)

// shown holds one term's text.
func (m model) shown(why, want string, x int, e api.Errno) {
	m.Helper()
	if got := m.show(x); got != want || e != api.OK {
		m.Errorf("%s: got %s, %d, not %s", why, got, e, want)
	}
}

// field is one of an epoch's, by its name.
type field struct {
	name string
	of   func(e api.Epoch) int
}

// fields are all of an epoch's, in their order.
func fields() []field {
	return []field{
		{"Joiner", func(e api.Epoch) int { return e.Joiner }},
		{"Welcome", func(e api.Epoch) int { return e.Welcome }},
		{"Epoch", func(e api.Epoch) int { return e.Epoch }},
		{"Sender", func(e api.Epoch) int { return e.Sender }},
		{"Encryption", func(e api.Epoch) int { return e.Encryption }},
		{"Exporter", func(e api.Epoch) int { return e.Exporter }},
		{"Confirm", func(e api.Epoch) int { return e.Confirm }},
		{"Membership", func(e api.Epoch) int { return e.Membership }},
		{"Resumption", func(e api.Epoch) int { return e.Resumption }},
		{"External", func(e api.Epoch) int { return e.External }},
		{"Init", func(e api.Epoch) int { return e.Init }},
	}
}

// The chapter's example: of one p.
func TestPskOfOne(t *testing.T) {
	m := start(t, 2)
	x, e := schedule.Psk(m.a, 1)
	m.shown("of one", `mix("",#1)`, x, e)
	x, e = schedule.Psk(m.a, 0)
	m.shown("of the term 0", `mix("",#0)`, x, e)
}

// Of none it is the Text without bytes, whether that is there or not.
func TestPskOfNone(t *testing.T) {
	for _, n := range []int{0, 1, 5} {
		m := start(t, n)
		x, e := schedule.Psk(m.a)
		m.shown("of none", `""`, x, e)
		if x != n || m.a.Len() != n+1 {
			t.Errorf("got %d of %d terms", x, m.a.Len())
		}
		if y, e := schedule.Psk(m.a, []int{}...); y != x || e != api.OK || m.a.Len() != n+1 {
			t.Errorf("again: got %d, %d of %d terms", y, e, m.a.Len())
		}
	}
	var a term.Arena
	m := model{t, &a}
	x, e := schedule.Psk(m.a)
	m.shown("in one that New did not make", `""`, x, e)
}

func TestPskTexts(t *testing.T) {
	m := start(t, 5)
	none := m.text("")
	list := m.make(api.Node{Op: api.List, L: []int{1, 2}})
	for _, c := range []struct {
		want string
		l    []int
	}{
		{`mix(mix("",#1),#2)`, []int{1, 2}},
		{`mix(mix("",#2),#1)`, []int{2, 1}},
		{`mix(mix(mix("",#4),#0),#3)`, []int{4, 0, 3}},
		// The same one more than once counts each time.
		{`mix(mix("",#1),#1)`, []int{1, 1}},
		{`mix(mix(mix("",#0),#1),#0)`, []int{0, 1, 0}},
		{`mix(mix(mix("",#0),#0),#0)`, []int{0, 0, 0}},
		// Any term may be shared: the Text without bytes, a List, what Psk is of others.
		{`mix("","")`, []int{none}},
		{`mix(mix("",""),#1)`, []int{none, 1}},
		{`mix(mix("",#1),"")`, []int{1, none}},
		{`mix("",list(#1,#2))`, []int{list}},
		{`mix(mix("",#3),mix("",#1))`, []int{3, m.psk(1)}},
		{`mix("",mix(mix("",#1),#2))`, []int{m.psk(1, 2)}},
	} {
		x, e := schedule.Psk(m.a, c.l...)
		m.shown("Psk", c.want, x, e)
	}
}

// Of many, more than a List may have, each counts in its place.
func TestPskOfMany(t *testing.T) {
	m := start(t, 300)
	var l []int
	for n := range 300 {
		l = append(l, (7*n+3)%300)
		was := m.a.Len()
		x, e := schedule.Psk(m.a, l...)
		if made := m.a.Len() - was; n > 0 && made != 1 {
			t.Errorf("of %d: %d terms made", n+1, made)
		}
		if x != m.psk(l...) || e != api.OK {
			t.Errorf("of %d: got %s, %d", n+1, m.show(x), e)
		}
	}
	last, _ := schedule.Psk(m.a, l...)
	for n := 1; n < 300; n += 37 {
		v := slices.Clone(l)
		v[n-1], v[n] = v[n], v[n-1]
		if x, e := schedule.Psk(m.a, v...); x == last || x != m.psk(v...) || e != api.OK {
			t.Errorf("%d and the next one exchanged: got %d, %d", n, x, e)
		}
	}
	// As many as this would be too deep for whoever goes down them one in the other.
	l = make([]int, 90000)
	if x, e := schedule.Psk(m.a, l...); m.a.Size(x) != 90002 || e != api.OK {
		t.Errorf("got a term of %d, %d", m.a.Size(x), e)
	}
}

func TestJoiner(t *testing.T) {
	m := start(t, 4)
	for _, c := range []struct {
		want                  string
		init, commit, context int
	}{
		{`key(mix(#0,#1),"joiner",#2)`, 0, 1, 2},
		{`key(mix(#1,#0),"joiner",#2)`, 1, 0, 2},
		{`key(mix(#2,#3),"joiner",#0)`, 2, 3, 0},
		{`key(mix(#1,#1),"joiner",#1)`, 1, 1, 1},
		{`key(mix(#0,#0),"joiner",#0)`, 0, 0, 0},
		{`key(mix("",""),"joiner",#3)`, m.text(""), m.text(""), 3},
		{`key(mix(#0,#1),"joiner","joiner")`, 0, 1, m.text("joiner")},
		{`key(mix(mix(#0,#1),#1),"joiner",list())`, m.mix(0, 1), 1, m.make(api.Node{Op: api.List})},
	} {
		x, e := schedule.Joiner(m.a, c.init, c.commit, c.context)
		m.shown("Joiner", c.want, x, e)
	}
}

// epochTexts are the fields' texts, in their order, of an epoch that begins with these.
func epochTexts(joiner, psk, context string) []string {
	member := "mix(" + joiner + "," + psk + ")"
	epoch := "key(" + member + `,"epoch",` + context + ")"
	return []string{
		joiner,
		"key(" + member + `,"welcome",list())`,
		epoch,
		"key(" + epoch + `,"sender",list())`,
		"key(" + epoch + `,"encryption",list())`,
		"key(" + epoch + `,"exporter",list())`,
		"key(" + epoch + `,"confirm",list())`,
		"key(" + epoch + `,"membership",list())`,
		"key(" + epoch + `,"resumption",list())`,
		"pub(key(" + epoch + `,"external",list()))`,
		"key(" + epoch + `,"init",list())`,
	}
}

func (m model) epochShown(why string, want []string, s api.Epoch, e api.Errno) {
	m.Helper()
	for i, f := range fields() {
		m.shown(why+": "+f.name, want[i], f.of(s), e)
	}
}

func TestBeginTexts(t *testing.T) {
	m := start(t, 3)
	s, e := schedule.Begin(m.a, 0, 1, 2)
	m.epochShown("Begin", []string{
		`#0`,
		`key(mix(#0,#1),"welcome",list())`,
		`key(mix(#0,#1),"epoch",#2)`,
		`key(key(mix(#0,#1),"epoch",#2),"sender",list())`,
		`key(key(mix(#0,#1),"epoch",#2),"encryption",list())`,
		`key(key(mix(#0,#1),"epoch",#2),"exporter",list())`,
		`key(key(mix(#0,#1),"epoch",#2),"confirm",list())`,
		`key(key(mix(#0,#1),"epoch",#2),"membership",list())`,
		`key(key(mix(#0,#1),"epoch",#2),"resumption",list())`,
		`pub(key(key(mix(#0,#1),"epoch",#2),"external",list()))`,
		`key(key(mix(#0,#1),"epoch",#2),"init",list())`,
	}, s, e)
	list := m.make(api.Node{Op: api.List, L: []int{0, 1}})
	for _, c := range [][3]int{{2, 1, 0}, {1, 1, 1}, {0, 0, 0}, {list, m.text(""), 0}, {s.Joiner, s.Epoch, s.Init}} {
		s, e := schedule.Begin(m.a, c[0], c[1], c[2])
		m.epochShown("Begin", epochTexts(m.show(c[0]), m.show(c[1]), m.show(c[2])), s, e)
	}
}

func TestNextTexts(t *testing.T) {
	m := start(t, 6)
	s, e := schedule.Next(m.a, 0, 1, 2, 3, 4)
	m.epochShown("two shared ones", []string{
		`key(mix(#0,#1),"joiner",#2)`,
		`key(mix(key(mix(#0,#1),"joiner",#2),mix(mix("",#3),#4)),"welcome",list())`,
		`key(mix(key(mix(#0,#1),"joiner",#2),mix(mix("",#3),#4)),"epoch",#2)`,
		`key(key(mix(key(mix(#0,#1),"joiner",#2),mix(mix("",#3),#4)),"epoch",#2),"sender",list())`,
		`key(key(mix(key(mix(#0,#1),"joiner",#2),mix(mix("",#3),#4)),"epoch",#2),"encryption",list())`,
		`key(key(mix(key(mix(#0,#1),"joiner",#2),mix(mix("",#3),#4)),"epoch",#2),"exporter",list())`,
		`key(key(mix(key(mix(#0,#1),"joiner",#2),mix(mix("",#3),#4)),"epoch",#2),"confirm",list())`,
		`key(key(mix(key(mix(#0,#1),"joiner",#2),mix(mix("",#3),#4)),"epoch",#2),"membership",list())`,
		`key(key(mix(key(mix(#0,#1),"joiner",#2),mix(mix("",#3),#4)),"epoch",#2),"resumption",list())`,
		`pub(key(key(mix(key(mix(#0,#1),"joiner",#2),mix(mix("",#3),#4)),"epoch",#2),"external",list()))`,
		`key(key(mix(key(mix(#0,#1),"joiner",#2),mix(mix("",#3),#4)),"epoch",#2),"init",list())`,
	}, s, e)
	for _, c := range []struct {
		joiner, psk, shown    string
		init, commit, context int
		psks                  []int
	}{
		{`key(mix(#5,#4),"joiner",#3)`, `""`, "#3", 5, 4, 3, nil},
		{`key(mix(#5,#4),"joiner",#3)`, `mix("",#0)`, "#3", 5, 4, 3, []int{0}},
		{`key(mix(#5,#4),"joiner",#3)`, `mix(mix(mix("",#3),#4),#5)`, "#3", 5, 4, 3, []int{3, 4, 5}},
		// All are one term, also the term 0; the same shared one more than once.
		{`key(mix(#1,#1),"joiner",#1)`, `mix(mix("",#1),#1)`, "#1", 1, 1, 1, []int{1, 1}},
		{`key(mix(#0,#0),"joiner",#0)`, `""`, "#0", 0, 0, 0, nil},
		{`key(mix(#0,#0),"joiner",#0)`, `mix(mix(mix("",#0),#0),#0)`, "#0", 0, 0, 0, []int{0, 0, 0}},
	} {
		s, e := schedule.Next(m.a, c.init, c.commit, c.context, c.psks...)
		m.epochShown("Next", epochTexts(c.joiner, c.psk, c.shown), s, e)
	}
}

// Next is Begin of Joiner and Psk, whatever terms these are of.
func TestNextIsBegin(t *testing.T) {
	m := start(t, 4)
	m.text("")
	m.make(api.Node{Op: api.List})
	d := draws(11)
	var l []int
	for range 300 {
		n := m.a.Len()
		init, commit, context := d.below(n), d.below(n), d.below(n)
		l = l[:0]
		for range d.below(5) {
			l = append(l, d.below(n))
		}
		s, e := schedule.Next(m.a, init, commit, context, l...)
		if want := m.next(init, commit, context, l...); s != want || e != api.OK {
			t.Fatalf("got %v, %d, not %v", s, e, want)
		}
		joiner, e := schedule.Joiner(m.a, init, commit, context)
		psk, f := schedule.Psk(m.a, l...)
		again, g := schedule.Begin(m.a, joiner, psk, context)
		if again != s || e != api.OK || f != api.OK || g != api.OK {
			t.Fatalf("got %v, %d, %d, %d, not %v", again, e, f, g, s)
		}
		other := d.below(n)
		if x, e := schedule.Begin(m.a, other, init, commit); x != m.begun(other, init, commit) || e != api.OK {
			t.Fatalf("got %v, %d", x, e)
		}
		if x, e := schedule.Export(m.a, s, "what for", other); x != m.exported(s, "what for", other) || e != api.OK {
			t.Fatalf("got %d, %d", x, e)
		}
	}
}

func TestExport(t *testing.T) {
	m := start(t, 6)
	s, e := schedule.Next(m.a, 0, 1, 2)
	if e != api.OK {
		t.Fatalf("got %d", e)
	}
	exporter := m.show(s.Exporter)
	long := strings.Repeat("x", api.MaxText)
	list := m.make(api.Node{Op: api.List, L: []int{3, 4}})
	var all []int
	for _, label := range []string{"", "l", "m", "exported", "exporter", "list()", "a\x00b", "\xff", long, long[1:]} {
		for _, context := range []int{0, 5, s.Epoch, s.Exporter, m.text(""), m.text("exported"), list} {
			x, e := schedule.Export(m.a, s, label, context)
			m.shown("Export", "key(key("+exporter+`,"`+label+`",list()),"exported",`+m.show(context)+")", x, e)
			all = append(all, x)
		}
	}
	slices.Sort(all)
	if n := len(slices.Compact(all)); n != 70 {
		t.Errorf("%d of 70 are one of their own", n)
	}
	// Of the epoch nothing but Exporter counts, also where all else is no term.
	none := api.Epoch{Joiner: -1, Welcome: greatest, Epoch: least, Sender: -1, Encryption: -1, Exporter: 3, Confirm: -1, Membership: -1, Resumption: -1, External: -1, Init: -1}
	x, e := schedule.Export(m.a, none, "l", 4)
	m.shown("Exporter alone", `key(key(#3,"l",list()),"exported",#4)`, x, e)
	x, e = schedule.Export(m.a, api.Epoch{}, "l", 0)
	m.shown("the term 0", `key(key(#0,"l",list()),"exported",#0)`, x, e)
}

// Inner is all but External, in the fields' order; it asks nothing of them.
func TestInner(t *testing.T) {
	e := api.Epoch{Joiner: 11, Welcome: 22, Epoch: 33, Sender: 44, Encryption: 55, Exporter: 66, Confirm: 77, Membership: 88, Resumption: 99, External: 110, Init: 121}
	if l := schedule.Inner(e); !slices.Equal(l, []int{11, 22, 33, 44, 55, 66, 77, 88, 99, 121}) {
		t.Errorf("got %v", l)
	}
	if l := schedule.Inner(api.Epoch{}); !slices.Equal(l, make([]int, 10)) {
		t.Errorf("got %v", l)
	}
	e = api.Epoch{Joiner: greatest, Welcome: least, Epoch: -1, Init: 1 << 32, External: 5}
	if l := schedule.Inner(e); !slices.Equal(l, []int{greatest, least, -1, 0, 0, 0, 0, 0, 0, 1 << 32}) {
		t.Errorf("got %v", l)
	}
	m := start(t, 3)
	s, _ := schedule.Next(m.a, 0, 1, 2)
	var want []int
	for _, f := range fields() {
		if f.name != "External" {
			want = append(want, f.of(s))
		}
	}
	if l := schedule.Inner(s); !slices.Equal(l, want) {
		t.Errorf("got %v, not %v", l, want)
	}
}
