package schedule_test

import (
	"slices"
	"strings"
	"testing"

	"cassock/api"
	"cassock/schedule"
	"cassock/term"
)

// call is one of the package's, of numbers alone; what it answers is told as one list.
type call struct {
	name string
	args int
	do   func(a *term.Arena, l []int) ([]int, api.Errno)
}

// calls are all that make terms.
func calls() []call {
	one := func(t int, e api.Errno) ([]int, api.Errno) { return []int{t}, e }
	all := func(s api.Epoch, e api.Errno) ([]int, api.Errno) {
		var l []int
		for _, f := range fields() {
			l = append(l, f.of(s))
		}
		return l, e
	}
	return []call{
		{"Psk of one", 1, func(a *term.Arena, l []int) ([]int, api.Errno) { return one(schedule.Psk(a, l...)) }},
		{"Psk of two", 2, func(a *term.Arena, l []int) ([]int, api.Errno) { return one(schedule.Psk(a, l...)) }},
		{"Psk of many", 70, func(a *term.Arena, l []int) ([]int, api.Errno) { return one(schedule.Psk(a, l...)) }},
		{"Joiner", 3, func(a *term.Arena, l []int) ([]int, api.Errno) { return one(schedule.Joiner(a, l[0], l[1], l[2])) }},
		{"Begin", 3, func(a *term.Arena, l []int) ([]int, api.Errno) { return all(schedule.Begin(a, l[0], l[1], l[2])) }},
		{"Next of none", 3, func(a *term.Arena, l []int) ([]int, api.Errno) { return all(schedule.Next(a, l[0], l[1], l[2])) }},
		{"Next of three", 6, func(a *term.Arena, l []int) ([]int, api.Errno) {
			return all(schedule.Next(a, l[0], l[1], l[2], l[3:]...))
		}},
		{"Export", 2, func(a *term.Arena, l []int) ([]int, api.Errno) {
			return one(schedule.Export(a, api.Epoch{Exporter: l[0]}, "what for", l[1]))
		}},
		{"Export of no label", 2, func(a *term.Arena, l []int) ([]int, api.Errno) {
			return one(schedule.Export(a, api.Epoch{Exporter: l[0]}, "", l[1]))
		}},
	}
}

// refuses holds what is told of arguments that do not do; nothing stands beside it.
func (c call) refuses(t *testing.T, why string, want api.Errno, a *term.Arena, l []int) {
	t.Helper()
	was := slices.Clone(l)
	got, e := c.do(a, l)
	if e != want || slices.ContainsFunc(got, func(x int) bool { return x != 0 }) {
		t.Errorf("%s, %s: got %v, %d, not %d", c.name, why, got, e, want)
	}
	if !slices.Equal(l, was) {
		t.Errorf("%s, %s: %v is %v now", c.name, why, was, l)
	}
}

// strangers are numbers that are no terms of an arena that has n, also such as what is made on the way would take.
func strangers(n int) []int {
	return []int{-1, -2, -n, n, n + 1, n + 2, n + 3, n + 4, n + 9, n + 100, api.MaxTerms, 1 << 31, 1 << 32, 1<<32 + 1, -1 << 32, greatest, greatest - 1, least, least + 1}
}

func TestNoSuchTerm(t *testing.T) {
	for _, c := range calls() {
		// What is made on the way may be there already, or not.
		for _, known := range []bool{false, true} {
			for i := range c.args {
				for k := range strangers(0) {
					m := start(t, 7)
					l := make([]int, c.args)
					for j := range l {
						l[j] = j % 7
					}
					if known {
						c.do(m.a, l)
					}
					l[i] = strangers(m.a.Len())[k]
					c.refuses(t, "one", api.ErrArg, m.a, l)
					// A second time, too: what is made on the way of that is not that number's term.
					if c.name[:3] != "Exp" {
						c.refuses(t, "again", api.ErrArg, m.a, l)
					}
					if c.args < 2 || c.args > 6 {
						continue
					}
					for j := range l {
						v := slices.Clone(l)
						v[j] = strangers(m.a.Len())[(k+j)%len(strangers(0))]
						if v[i] >= m.a.Len() || v[i] < 0 {
							c.refuses(t, "two", api.ErrArg, m.a, v)
						}
					}
				}
			}
		}
	}
}

// The last term is one.
func TestLastTerm(t *testing.T) {
	for _, c := range calls() {
		for i := range c.args {
			m := start(t, 7)
			l := make([]int, c.args)
			l[i] = m.a.Len() - 1
			if _, e := c.do(m.a, l); e != api.OK {
				t.Errorf("%s: got %d", c.name, e)
			}
		}
	}
}

// What is refused for what was handed over makes no term that would take the number.
func TestRefusedMakesNothing(t *testing.T) {
	for _, c := range calls() {
		if c.name[:3] == "Exp" {
			continue
		}
		m := start(t, 7)
		l := make([]int, c.args)
		l[c.args-1] = 7
		c.refuses(t, "the next one", api.ErrArg, m.a, l)
		if m.a.Len() != 7 {
			t.Errorf("%s: %d terms", c.name, m.a.Len())
		}
	}
	m := start(t, 7)
	if x, e := schedule.Export(m.a, api.Epoch{}, "l", 7); x != 0 || e != api.ErrArg || m.a.Len() != 7 {
		t.Errorf("got %d, %d, %d terms", x, e, m.a.Len())
	}
}

func TestLabelTooLong(t *testing.T) {
	m := start(t, 3)
	s, _ := schedule.Next(m.a, 0, 1, 2)
	for _, n := range []int{api.MaxText + 1, api.MaxText + 2, 2 * api.MaxText, 1 << 16, 1 << 20} {
		for _, context := range []int{0, s.Exporter, -1, m.a.Len() + 9} {
			for _, exporter := range []int{s.Exporter, 0, -1, greatest} {
				x, e := schedule.Export(m.a, api.Epoch{Exporter: exporter}, strings.Repeat("x", n), context)
				if x != 0 || e != api.ErrArg {
					t.Errorf("%d bytes, context %d: got %d, %d", n, context, x, e)
				}
			}
		}
	}
	// Bytes count, not letters.
	if x, e := schedule.Export(m.a, s, strings.Repeat("é", api.MaxText/2), 0); x == 0 || e != api.OK {
		t.Errorf("got %d, %d", x, e)
	}
	if x, e := schedule.Export(m.a, s, strings.Repeat("é", api.MaxText/2)+"x", 0); x != 0 || e != api.ErrArg {
		t.Errorf("got %d, %d", x, e)
	}
}

// An arena that has no terms has nothing to begin with; one that is none makes none, either.
func TestNoArena(t *testing.T) {
	for _, a := range []*term.Arena{nil, term.New(), {}} {
		for _, c := range calls() {
			c.refuses(t, "no terms", api.ErrArg, a, make([]int, c.args))
		}
		if x, e := schedule.Export(a, api.Epoch{}, "l", 0); x != 0 || e != api.ErrArg {
			t.Errorf("got %d, %d", x, e)
		}
	}
	if x, e := schedule.Psk(nil); x != 0 || e != api.ErrArg {
		t.Errorf("got %d, %d", x, e)
	}
}
