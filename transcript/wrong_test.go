package transcript_test

import (
	"slices"
	"strings"
	"testing"

	"cassock/api"
	"cassock/term"
	"cassock/transcript"
)

// call is one of the package's, of terms alone; what it answers is told as one list.
type call struct {
	name string
	args int
	do   func(a *term.Arena, l []int) ([]int, api.Errno)
}

// messages are those of a list of numbers, three by three.
func messages(l []int) [][3]int {
	var all [][3]int
	for k := range len(l) / 3 {
		all = append(all, [3]int(l[3*k:]))
	}
	return all
}

// calls are all that make terms of others.
func calls() []call {
	one := func(t int, e api.Errno) ([]int, api.Errno) { return []int{t}, e }
	context := func(epoch int) func(a *term.Arena, l []int) ([]int, api.Errno) {
		return func(a *term.Arena, l []int) ([]int, api.Errno) {
			return one(transcript.Context(a, l[0], epoch, l[1], l[2], l[3]))
		}
	}
	chain := func(a *term.Arena, l []int) ([]int, api.Errno) {
		return transcript.Chain(a, l[0], messages(l[1:])...)
	}
	return []call{
		{"Confirmed", 3, func(a *term.Arena, l []int) ([]int, api.Errno) { return one(transcript.Confirmed(a, l[0], l[1], l[2])) }},
		{"Tag", 2, func(a *term.Arena, l []int) ([]int, api.Errno) { return one(transcript.Tag(a, l[0], l[1])) }},
		{"Interim", 2, func(a *term.Arena, l []int) ([]int, api.Errno) { return one(transcript.Interim(a, l[0], l[1])) }},
		{"Context of epoch 0", 4, context(0)},
		{"Context of epoch 12", 4, context(12)},
		{"Context of the last epoch", 4, context(greatest)},
		{"Chain of one", 4, chain},
		{"Chain of two", 7, chain},
		{"Chain of three", 10, chain},
	}
}

// refuses holds what is told of arguments that do not do; nothing stands beside it.
func (c call) refuses(t *testing.T, why string, want api.Errno, a *term.Arena, l []int) {
	t.Helper()
	was := slices.Clone(l)
	got, e := c.do(a, l)
	if e != want || slices.ContainsFunc(got, func(x int) bool { return x != 0 }) || strings.HasPrefix(c.name, "Chain") && len(got) > 0 {
		t.Errorf("%s, %s: got %v, %d, not %d", c.name, why, got, e, want)
	}
	if !slices.Equal(l, was) {
		t.Errorf("%s, %s: %v is %v now", c.name, why, was, l)
	}
}

// strangers are numbers that are no terms of an arena that has n, also such as what is made on the way would take.
func strangers(n int) []int {
	l := []int{-1, -2, -n, n + 40, n + 100, api.MaxTerms, 1 << 31, 1 << 32, 1<<32 + 1, -1 << 32, greatest, greatest - 1, least, least + 1}
	for k := range 16 {
		l = append(l, n+k)
	}
	return l
}

// some are terms of an arena that has seven, as many as asked for.
func some(n int) []int {
	l := make([]int, n)
	for j := range l {
		l[j] = (3*j + 1) % 7
	}
	return l
}

func TestNoSuchTerm(t *testing.T) {
	for _, c := range calls() {
		// What is made on the way may be there already, or not.
		for _, known := range []bool{false, true} {
			for i := range c.args {
				for k := range strangers(0) {
					m := start(t, 7)
					l := some(c.args)
					if known {
						c.do(m.a, l)
					}
					l[i] = strangers(m.a.Len())[k]
					c.refuses(t, "one", api.ErrArg, m.a, l)
				}
			}
		}
	}
}

func TestNoSuchTermTwice(t *testing.T) {
	for _, c := range calls() {
		for i := range c.args {
			for j := range i {
				for _, x := range []int{-1, 7, 8, greatest, least} {
					for _, y := range []int{-1, 7, 12, greatest, least} {
						m := start(t, 7)
						l := some(c.args)
						l[i], l[j] = x, y
						c.refuses(t, "two", api.ErrArg, m.a, l)
					}
				}
			}
		}
	}
}

// Where the first thing asked of is no term, nothing is made.
func TestNothingMadeOfNoTerm(t *testing.T) {
	for _, c := range calls() {
		for _, x := range strangers(7) {
			m := start(t, 7)
			l := some(c.args)
			l[0] = x
			c.refuses(t, "the first one", api.ErrArg, m.a, l)
			if m.a.Len() != 7 {
				t.Errorf("%s: %d terms", c.name, m.a.Len())
			}
		}
	}
}

func TestEpochBelowZero(t *testing.T) {
	m := start(t, 4)
	m.context(0, 1, 1, 2, 3)
	n := m.a.Len()
	for _, epoch := range []int{-1, -2, -12, -1 << 31, -1 << 32, least + 1, least} {
		for _, l := range [][]int{{0, 1, 2, 3}, {-1, 1, 2, 3}, {0, greatest, 2, 3}, {0, 1, 2, least}} {
			if x, e := transcript.Context(m.a, l[0], epoch, l[1], l[2], l[3]); x != 0 || e != api.ErrArg || m.a.Len() != n {
				t.Errorf("%d of %v: got %d, %d; %d terms", epoch, l, x, e, m.a.Len())
			}
		}
	}
}

// unread holds that a term is no context, and that to ask of it makes none.
func (m model) unread(why string, x int) {
	m.Helper()
	n := m.a.Len()
	if got, e := transcript.Read(m.a, x); got != [5]int{} || e != api.ErrArg || m.a.Len() != n {
		m.Errorf("%s: got %v, %d; %d terms were made", why, got, e, m.a.Len()-n)
	}
}

func TestReadOfNoTerm(t *testing.T) {
	m := start(t, 4)
	m.context(0, 12, 1, 2, 3)
	for _, x := range strangers(m.a.Len()) {
		m.unread("no term", x)
	}
}

func TestReadOfOtherKinds(t *testing.T) {
	m := start(t, 4)
	context := m.context(0, 12, 1, 2, 3)
	for _, x := range m.kinds() {
		m.unread(m.show(x), x)
	}
	// Nor is what has a context as its part, or as its first ones those of one.
	for _, op := range []int{api.Hash, api.Pub} {
		m.unread("of a context", m.make(api.Node{Op: op, L: []int{context}}))
	}
	group, epoch := m.text("group"), m.text("12")
	for _, op := range []int{api.Mix, api.Sig, api.Mac, api.Blind} {
		m.unread("of a context", m.make(api.Node{Op: op, L: []int{context, context}}))
	}
	for _, op := range []int{api.Seal, api.Enc} {
		m.unread("of a context", m.make(api.Node{Op: op, L: []int{group, 0, epoch, 1}}))
	}
	m.unread("a Key", m.make(api.Node{Op: api.Key, L: []int{group, group, epoch}}))
	m.unread("a List of it", m.list(context))
	m.unread("a List of six of it", m.list(context, context, context, context, context, context))
}

func TestReadOfOtherLengths(t *testing.T) {
	m := start(t, 4)
	l := []int{m.text("group"), 0, m.text("12"), 1, 2, 3}
	for len(l) < api.MaxList {
		l = append(l, len(l)%4)
	}
	for n := range api.MaxList + 1 {
		x := m.list(l[:n]...)
		if n != 6 {
			m.unread("of another length", x)
		} else if got, e := transcript.Read(m.a, x); got != [5]int{0, 12, 1, 2, 3} || e != api.OK {
			t.Errorf("got %v, %d", got, e)
		}
	}
}

func TestReadOfOtherBeginnings(t *testing.T) {
	m := start(t, 4)
	epoch := m.text("12")
	l := m.kinds()
	for _, s := range []string{"", "g", "grou", "groups", "Group", "GROUP", "group ", " group", "group\x00", "\"group\"", "12", "commit"} {
		l = append(l, m.text(s))
	}
	l = append(l, m.list(m.text("group")), m.make(api.Node{Op: api.Hash, L: []int{m.text("group")}}), epoch)
	for _, x := range l {
		if x != m.text("group") {
			m.unread(m.show(x), m.list(x, 0, epoch, 1, 2, 3))
		}
	}
	// The Text at another place does not do.
	m.unread("at another place", m.list(0, m.text("group"), epoch, 1, 2, 3))
}

func TestReadOfOtherEpochs(t *testing.T) {
	m := start(t, 13)
	group := m.text("group")
	for _, s := range []string{
		"", "x", "-", "+", " ", "-1", "-0", "+0", "+3", " 3", "3 ", "3\n", "\x003", "3\x00", "3.", "3.0", "1e3", "0x3", "0b1", "0o7", "1_0", "1,000", "3a", "a3", "1a2", "/", ":", "1/", "1:", "12345678:", "/2345678", "\xff", "٣", "３", "list", "group",
		"00", "000", "01", "012", "0000000000", "000000000", "000000012", "0123456789", "00000000012", "-12", "--1",
		"1000000000", "1000000001", "1234567890", "9999999999", "2147483648", "4294967296", "4294967308", "9223372036854775807", "9223372036854775808", "18446744073709551616", "18446744073709551628", "-9223372036854775808",
		strings.Repeat("1", api.MaxText), strings.Repeat("0", api.MaxText), strings.Repeat("9", 20),
	} {
		m.unread("epoch "+s, m.list(group, 0, m.text(s), 1, 2, 3))
	}
	// Each byte but a digit, alone, ahead, in the middle and behind.
	for b := range 256 {
		if b < '0' || b > '9' {
			c := string([]byte{byte(b)})
			for _, s := range []string{c, c + "1", "1" + c, "1" + c + "2"} {
				m.unread("epoch "+s, m.list(group, 0, m.text(s), 1, 2, 3))
			}
		}
	}
	// What is no Text is no epoch, an Atom of that number neither.
	for _, x := range append(m.kinds(), 12, m.list(m.text("12")), m.make(api.Node{Op: api.Pub, L: []int{m.text("12")}})) {
		if s := m.show(x); s != `"7"` {
			m.unread("epoch "+s, m.list(group, 0, x, 1, 2, 3))
		}
	}
	// The digits at another place do not do.
	epoch := m.text("12")
	for _, l := range [][]int{{group, epoch, 0, 1, 2, 3}, {group, 0, 1, epoch, 2, 3}, {group, 0, 1, 2, 3, epoch}, {epoch, 0, group, 1, 2, 3}} {
		m.unread("at another place", m.list(l...))
	}
}

// A message that may not be, at any place, is told, and beside it no hash, not even of those ahead.
func TestChainOfWrongMessages(t *testing.T) {
	for _, n := range []int{1, 2, 3, 6} {
		for k := range n {
			for i := range 3 {
				for _, x := range strangers(7) {
					m := start(t, 7)
					l := messages(some(3 * n))
					l[k][i] = x
					was := slices.Clone(l)
					if got, e := transcript.Chain(m.a, 0, l...); len(got) != 0 || e != api.ErrArg || !slices.Equal(l, was) {
						t.Errorf("%d of %d, part %d, %d: got %v, %d", k, n, i, x, got, e)
					}
					// Ahead of it all is well.
					got, e := transcript.Chain(m.a, 0, l[:k]...)
					if want := m.chain(0, l[:k]...); !slices.Equal(got, want) || e != api.OK {
						t.Errorf("ahead of %d: got %v, %d, not %v", k, got, e, want)
					}
				}
			}
		}
		for _, x := range strangers(7) {
			m := start(t, 7)
			if got, e := transcript.Chain(m.a, x, messages(some(3*n))...); len(got) != 0 || e != api.ErrArg || m.a.Len() != 7 {
				t.Errorf("start %d: got %v, %d", x, got, e)
			}
		}
	}
}

// What the messages ahead of it make is a term for whoever asks behind the call, but none that could be handed over ahead of it.
func TestChainMakesNoTermOfWhatIsNone(t *testing.T) {
	m := start(t, 7)
	first := m.chain(0, [3]int{1, 2, 3})
	n := m.a.Len()
	l := [][3]int{{1, 2, 3}, {first[0], 4, n - 1}}
	want := m.chain(0, l...)
	if got, e := transcript.Chain(m.a, 0, l...); !slices.Equal(got, want) || e != api.OK {
		t.Errorf("terms that are there: got %v, %d, not %v", got, e, want)
	}
	m = start(t, 7)
	if got, e := transcript.Chain(m.a, 0, l...); len(got) != 0 || e != api.ErrArg {
		t.Errorf("terms that are not there yet: got %v, %d", got, e)
	}
	// Behind what made them they are there.
	m = start(t, 7)
	m.chain(0, l[0])
	if got, e := transcript.Chain(m.a, 0, l...); !slices.Equal(got, want) || e != api.OK {
		t.Errorf("terms that are there now: got %v, %d, not %v", got, e, want)
	}
}

// An arena that has no terms has nothing to begin with; one that is none makes none, either.
func TestNoArena(t *testing.T) {
	for _, a := range []*term.Arena{nil, term.New(), {}} {
		for _, c := range calls() {
			c.refuses(t, "no terms", api.ErrArg, a, make([]int, c.args))
		}
		if l, e := transcript.Chain(a, 0); len(l) != 0 || e != api.OK {
			t.Errorf("got %v, %d", l, e)
		}
		if l, e := transcript.Read(a, 0); l != [5]int{} || e != api.ErrArg || a.Len() != 0 {
			t.Errorf("got %v, %d", l, e)
		}
	}
	if x, e := transcript.Start(nil); x != 0 || e != api.ErrArg {
		t.Errorf("got %d, %d", x, e)
	}
}
