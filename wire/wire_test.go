package wire_test

import (
	"bytes"
	"math"
	"runtime"
	"slices"
	"testing"

	"cassock/api"
	"cassock/wire"
)

// limit is the first length, and the first number, that has no bytes.
const limit = 1 << 30

// tooLong tells whether an answer is that of a length that is limit, or more.
func tooLong(b []byte, e api.Errno) bool {
	return len(b) == 0 && e == api.ErrArg
}

// It stands first, as memory that nobody had yet costs nothing till it is written.
func TestLengths(t *testing.T) {
	x := make([]byte, limit+1)
	for _, n := range []int{limit, limit + 1} {
		if b, e := wire.Bytes(x[:n]); !tooLong(b, e) {
			t.Errorf("Bytes of %d: got %d bytes, %d", n, len(b), e)
		}
		if b, e := wire.Join(x[:n]); !tooLong(b, e) {
			t.Errorf("Join of %d: got %d bytes, %d", n, len(b), e)
		}
		if b, e := wire.Join(nil, x[:n], nil); !tooLong(b, e) {
			t.Errorf("Join of %d between others: got %d bytes, %d", n, len(b), e)
		}
		if b, e := wire.Opt(x[:n], true); !tooLong(b, e) {
			t.Errorf("Opt of %d: got %d bytes, %d", n, len(b), e)
		}
		if b, e := wire.Opt(x[:n], false); !bytes.Equal(b, []byte{0}) || e != api.OK {
			t.Errorf("none, beside %d: got %d bytes, %d", n, len(b), e)
		}
	}
	// All elements' lengths are below limit, but not the list's.
	for i, l := range [][][]byte{
		{x[:limit-1]},
		{x[:limit-4]},
		{x[:limit-5], nil},
		{x[:limit/2], x[:limit/2]},
		{x[:limit/2-4], x[:limit/2-4]},
		slices.Repeat([][]byte{x[:limit-1]}, 1000),
	} {
		if b, e := wire.Join(l...); !tooLong(b, e) {
			t.Errorf("list %d: got %d bytes, %d", i, len(b), e)
		}
	}
	if b, e := wire.Bytes(x[:limit-1]); len(b) != limit+3 || string(b[:5]) != "\xbf\xff\xff\xff\x00" || e != api.OK {
		t.Errorf("the longest vector: got %d bytes, %d", len(b), e)
	}
	runtime.GC() // so that the list lies where the vector lay
	if b, e := wire.Join(x[:limit-5]); len(b) != limit+3 || string(b[:9]) != "\xbf\xff\xff\xff\xbf\xff\xff\xfb\x00" || e != api.OK {
		t.Errorf("the longest list: got %d bytes, %d", len(b), e)
	}
}

// numbers are at and beside all the edges, with the bytes that the chapter gives them.
func numbers() map[int][]byte {
	return map[int][]byte{
		0:         {0},
		1:         {1},
		37:        {37},
		62:        {62},
		63:        {63},
		64:        {0x40, 64},
		65:        {0x40, 65},
		255:       {0x40, 255},
		256:       {0x41, 0},
		15293:     {123, 189},
		16382:     {0x7f, 0xfe},
		16383:     {0x7f, 0xff},
		16384:     {0x80, 0, 0x40, 0},
		16385:     {0x80, 0, 0x40, 1},
		65535:     {0x80, 0, 0xff, 0xff},
		65536:     {0x80, 1, 0, 0},
		1 << 24:   {0x81, 0, 0, 0},
		0x1234567: {0x81, 0x23, 0x45, 0x67},
		limit - 2: {0xbf, 0xff, 0xff, 0xfe},
		limit - 1: {0xbf, 0xff, 0xff, 0xff},
	}
}

func TestInt(t *testing.T) {
	for n, want := range numbers() {
		if b, e := wire.Int(n); !bytes.Equal(b, want) || e != api.OK {
			t.Errorf("Int(%d): got %v, %d", n, b, e)
		}
	}
	for _, n := range []int{-1, -2, -64, -limit, math.MinInt, limit, limit + 1, 1 << 31, 1 << 32, 1<<32 + 5, 1 << 62, math.MaxInt} {
		if b, e := wire.Int(n); len(b) != 0 || e != api.ErrArg {
			t.Errorf("Int(%d): got %v, %d", n, b, e)
		}
	}
}

func TestTakeInt(t *testing.T) {
	for want, b := range numbers() {
		for _, behind := range [][]byte{nil, {0}, {255}, {192, 1, 2, 3, 4}} {
			n, k, e := wire.TakeInt(slices.Concat(b, behind))
			if n != want || k != len(b) || e != api.OK {
				t.Errorf("%v and %v: got %d, %d, %d", b, behind, n, k, e)
			}
		}
		for i := range b {
			if n, k, e := wire.TakeInt(b[:i]); n != 0 || k != 0 || e != api.ErrShort {
				t.Errorf("%v, cut at %d: got %d, %d, %d", b, i, n, k, e)
			}
		}
	}
}

func TestTakeIntForm(t *testing.T) {
	wrong := map[string]api.Errno{
		"":                 api.ErrShort,
		"\xc0":             api.ErrForm, // the highest bits are told ahead of what is wanting
		"\xc0\x00\x00":     api.ErrForm,
		"\xff\xff\xff\xff": api.ErrForm,
		"\x40":             api.ErrShort, // what is wanting is told ahead of fewer bytes
		"\x40\x00":         api.ErrForm,
		"\x40\x25":         api.ErrForm,
		"\x40\x3f":         api.ErrForm,
		"\x80":             api.ErrShort,
		"\x80\x00":         api.ErrShort,
		"\x80\x00\x00":     api.ErrShort,
		"\x80\x00\x00\x00": api.ErrForm,
		"\x80\x00\x00\x25": api.ErrForm,
		"\x80\x00\x00\x40": api.ErrForm,
		"\x80\x00\x3f\xff": api.ErrForm,
	}
	for s, want := range wrong {
		if n, k, e := wire.TakeInt([]byte(s)); n != 0 || k != 0 || e != want {
			t.Errorf("%q: got %d, %d, %d", s, n, k, e)
		}
	}
}

// All beginnings of two bytes are gone through, with some bytes behind them.
func TestTakeIntIsIntsOwn(t *testing.T) {
	for i := range 1 << 16 {
		for _, behind := range [][]byte{nil, {0, 0}, {0x3f, 0xff}, {0x40, 0}, {0xff, 0xff, 7}} {
			b := append([]byte{byte(i >> 8), byte(i)}, behind...)
			n, k, e := wire.TakeInt(b)
			if e != api.OK {
				if n != 0 || k != 0 {
					t.Fatalf("%v: got %d, %d beside %d", b, n, k, e)
				}
				continue
			}
			if w, e := wire.Int(n); e != api.OK || !bytes.Equal(w, b[:k]) {
				t.Fatalf("%v: read as %d, written as %v, %d", b, n, w, e)
			}
		}
	}
}

func TestWide(t *testing.T) {
	for _, x := range []struct {
		n    uint64
		wide int
		want []byte
	}{
		{0, 1, []byte{0}},
		{255, 1, []byte{255}},
		{258, 2, []byte{1, 2}},
		{258, 3, []byte{0, 1, 2}},
		{1<<16 - 1, 2, []byte{255, 255}},
		{1<<56 - 1, 7, []byte{255, 255, 255, 255, 255, 255, 255}},
		{0, 8, []byte{0, 0, 0, 0, 0, 0, 0, 0}},
		{1 << 56, 8, []byte{1, 0, 0, 0, 0, 0, 0, 0}},
		{0x0102030405060708, 8, []byte{1, 2, 3, 4, 5, 6, 7, 8}},
		{math.MaxUint64, 8, []byte{255, 255, 255, 255, 255, 255, 255, 255}},
	} {
		if b, e := wire.Wide(x.n, x.wide); !bytes.Equal(b, x.want) || e != api.OK {
			t.Errorf("Wide(%d, %d): got %v, %d", x.n, x.wide, b, e)
		}
		if n, e := wire.TakeWide(slices.Concat(x.want, []byte{9, 9}), x.wide); n != x.n || e != api.OK {
			t.Errorf("TakeWide(%v, %d): got %d, %d", x.want, x.wide, n, e)
		}
		for i := range x.want {
			if n, e := wire.TakeWide(x.want[:i], x.wide); n != 0 || e != api.ErrShort {
				t.Errorf("TakeWide(%v, %d), cut at %d: got %d, %d", x.want, x.wide, i, n, e)
			}
		}
	}
}

func TestWideBounds(t *testing.T) {
	for wide := 1; wide < 8; wide++ {
		over := uint64(1) << (8 * wide)
		if b, e := wire.Wide(over-1, wide); len(b) != wide || e != api.OK {
			t.Errorf("Wide(%d, %d): got %v, %d", over-1, wide, b, e)
		}
		for _, n := range []uint64{over, over + 1, math.MaxUint64} {
			if b, e := wire.Wide(n, wide); len(b) != 0 || e != api.ErrArg {
				t.Errorf("Wide(%d, %d): got %v, %d", n, wide, b, e)
			}
		}
	}
	for _, wide := range []int{0, -1, -8, 9, 64, math.MinInt, math.MaxInt, 1 << 61} {
		if b, e := wire.Wide(0, wide); len(b) != 0 || e != api.ErrArg {
			t.Errorf("Wide(0, %d): got %v, %d", wide, b, e)
		}
		// ErrArg stands ahead of ErrShort: nothing is there, too.
		for _, b := range [][]byte{nil, make([]byte, 100)} {
			if n, e := wire.TakeWide(b, wide); n != 0 || e != api.ErrArg {
				t.Errorf("TakeWide of %d bytes, %d: got %d, %d", len(b), wide, n, e)
			}
		}
	}
}

// lengths are at and beside the edges of what a vector's length has.
func lengths() []int {
	return []int{0, 1, 2, 62, 63, 64, 65, 300, 16382, 16383, 16384, 16385, 70000}
}

// filled is so many bytes of which no two beside one another are the same.
func filled(n int) []byte {
	b := make([]byte, n)
	for i := range b {
		b[i] = byte(i*7 + 130)
	}
	return b
}

// vector is what the chapter says a vector's bytes are.
func vector(t *testing.T, x []byte) []byte {
	t.Helper()
	head, e := wire.Int(len(x))
	if e != api.OK {
		t.Fatalf("Int(%d): got %d", len(x), e)
	}
	return slices.Concat(head, x)
}

func TestBytes(t *testing.T) {
	for _, n := range lengths() {
		x := filled(n)
		want := vector(t, x)
		if b, e := wire.Bytes(x); !bytes.Equal(b, want) || e != api.OK {
			t.Errorf("Bytes of %d: got %d bytes, %d", n, len(b), e)
		}
		got, k, e := wire.TakeBytes(append(want, 1, 2, 3))
		if !bytes.Equal(got, x) || k != len(want) || e != api.OK {
			t.Errorf("TakeBytes of %d: got %d bytes, %d, %d", n, len(got), k, e)
		}
		for _, i := range cuts(len(want)) {
			if got, k, e := wire.TakeBytes(want[:i:i]); len(got) != 0 || k != 0 || e != api.ErrShort {
				t.Errorf("TakeBytes of %d, cut at %d: got %v, %d, %d", n, i, got, k, e)
			}
		}
	}
	if b, e := wire.Bytes(nil); !bytes.Equal(b, []byte{0}) || e != api.OK {
		t.Errorf("Bytes of nil: got %v, %d", b, e)
	}
}

// cuts are places below n to cut at: the first few, the middle, the last few.
func cuts(n int) []int {
	var l []int
	for i := range n {
		if i < 8 || i == n/2 || i >= n-3 {
			l = append(l, i)
		}
	}
	return l
}

func TestTakeBytesForm(t *testing.T) {
	for s, want := range map[string]api.Errno{
		"":                   api.ErrShort,
		"\x01":               api.ErrShort,
		"\x02a":              api.ErrShort,
		"\x40":               api.ErrShort,
		"\x40\x40a":          api.ErrShort,
		"\x40\x05":           api.ErrForm, // the length is told ahead of what is wanting behind it
		"\x40\x05abcde":      api.ErrForm,
		"\xc0":               api.ErrForm,
		"\xc1abcdefgh":       api.ErrForm,
		"\x80\x00\x3f\xff":   api.ErrForm,
		"\x80\x00\x00":       api.ErrShort,
		"\xbf\xff\xff\xff":   api.ErrShort,
		"\xbf\xff\xff\xffab": api.ErrShort,
	} {
		if x, k, e := wire.TakeBytes([]byte(s)); len(x) != 0 || k != 0 || e != want {
			t.Errorf("%q: got %q, %d, %d", s, x, k, e)
		}
	}
}

// lists are lists of vectors, and the bytes of each.
func lists(t *testing.T) [][][]byte {
	t.Helper()
	return [][][]byte{
		nil,
		{nil},
		{{}, nil, {}},
		{[]byte("a"), nil},
		{nil, []byte("a")},
		{[]byte("a"), nil, []byte("bc")},
		{{0}, {0xc0}, {0x40, 0x05}},
		{filled(62)}, // with its own length 63 bytes
		{filled(63)}, // and 64
		{filled(61), nil},
		{filled(62), nil},
		{filled(64), filled(63)},
		{filled(16381)}, // with its own length 16383 bytes
		{filled(16382)}, // and 16384
		{filled(16384), filled(1), filled(16383), nil},
		slices.Repeat([][]byte{nil}, 63),
		slices.Repeat([][]byte{nil}, 64),
		slices.Repeat([][]byte{{7}}, 8192),
	}
}

func same(l, m [][]byte) bool {
	return slices.EqualFunc(l, m, bytes.Equal)
}

func TestJoin(t *testing.T) {
	for i, l := range lists(t) {
		var all []byte
		for _, x := range l {
			all = append(all, vector(t, x)...)
		}
		want := vector(t, all)
		if b, e := wire.Join(l...); !bytes.Equal(b, want) || e != api.OK {
			t.Errorf("%d: got %d bytes, %d", i, len(b), e)
		}
		got, k, e := wire.Split(append(want, 0xc0, 1))
		if !same(got, l) || k != len(want) || e != api.OK {
			t.Errorf("%d: got %d elements, %d, %d", i, len(got), k, e)
		}
		for _, j := range cuts(len(want)) {
			if got, k, e := wire.Split(want[:j:j]); len(got) != 0 || k != 0 || e != api.ErrShort {
				t.Errorf("%d, cut at %d: got %v, %d, %d", i, j, got, k, e)
			}
		}
	}
	if b, e := wire.Join([]byte("a"), nil); !bytes.Equal(b, []byte{3, 1, 97, 0}) || e != api.OK {
		t.Errorf("the chapter's own: got %v, %d", b, e)
	}
	if b, e := wire.Join(); !bytes.Equal(b, []byte{0}) || e != api.OK {
		t.Errorf("Join of none: got %v, %d", b, e)
	}
}

func TestSplitForm(t *testing.T) {
	for s, want := range map[string]api.Errno{
		"":                     api.ErrShort,
		"\x01":                 api.ErrShort,
		"\x02\x01":             api.ErrShort, // the list's own bytes are wanting
		"\x02\x40":             api.ErrShort, // and told ahead of what its elements have wrong
		"\x02\xc0":             api.ErrShort,
		"\x40\x01\x00":         api.ErrForm,
		"\xc0\x00":             api.ErrForm,
		"\x01\x01":             api.ErrForm,
		"\x01\x01a":            api.ErrForm, // behind the list's own bytes nothing counts
		"\x02\x02a":            api.ErrForm,
		"\x02\x02ab":           api.ErrForm,
		"\x03\x01a\x01":        api.ErrForm,
		"\x03\x01a\x01b":       api.ErrForm,
		"\x01\x40":             api.ErrForm,
		"\x01\x40\x40":         api.ErrForm,
		"\x02\x40\x00":         api.ErrForm,
		"\x03\x40\x01a":        api.ErrForm,
		"\x01\xc0":             api.ErrForm,
		"\x04\x80\x00\x00\x00": api.ErrForm,
	} {
		if l, k, e := wire.Split([]byte(s)); len(l) != 0 || k != 0 || e != want {
			t.Errorf("%q: got %q, %d, %d", s, l, k, e)
		}
	}
}

func TestOpt(t *testing.T) {
	for _, x := range [][]byte{nil, {}, []byte("ab"), filled(limit / 1024)} {
		if b, e := wire.Opt(x, false); !bytes.Equal(b, []byte{0}) || e != api.OK {
			t.Errorf("none, beside %d bytes: got %v, %d", len(x), b, e)
		}
	}
	for _, n := range lengths() {
		x := filled(n)
		want := slices.Concat([]byte{1}, vector(t, x))
		if b, e := wire.Opt(x, true); !bytes.Equal(b, want) || e != api.OK {
			t.Errorf("Opt of %d: got %d bytes, %d", n, len(b), e)
		}
		got, is, k, e := wire.TakeOpt(append(want, 1, 0))
		if !bytes.Equal(got, x) || !is || k != len(want) || e != api.OK {
			t.Errorf("TakeOpt of %d: got %d bytes, %v, %d, %d", n, len(got), is, k, e)
		}
		for _, i := range cuts(len(want)) {
			if got, is, k, e := wire.TakeOpt(want[:i:i]); len(got) != 0 || is || k != 0 || e != api.ErrShort {
				t.Errorf("TakeOpt of %d, cut at %d: got %v, %v, %d, %d", n, i, got, is, k, e)
			}
		}
	}
	for _, behind := range []string{"", "\x00", "\x01a", "\xc0"} {
		if x, is, k, e := wire.TakeOpt([]byte("\x00" + behind)); len(x) != 0 || is || k != 1 || e != api.OK {
			t.Errorf("none, %q behind: got %v, %v, %d, %d", behind, x, is, k, e)
		}
	}
}

func TestTakeOptForm(t *testing.T) {
	for s, want := range map[string]api.Errno{
		"":             api.ErrShort,
		"\x01":         api.ErrShort,
		"\x01\x02a":    api.ErrShort,
		"\x01\x40":     api.ErrShort,
		"\x01\x40\x01": api.ErrForm,
		"\x01\xc0":     api.ErrForm,
		"\x02":         api.ErrForm,
		"\x02\x00":     api.ErrForm,
		"\x03\x01a":    api.ErrForm,
		"\x81\x01a":    api.ErrForm,
		"\x80":         api.ErrForm,
		"\xff":         api.ErrForm,
	} {
		if x, is, k, e := wire.TakeOpt([]byte(s)); len(x) != 0 || is || k != 0 || e != want {
			t.Errorf("%q: got %q, %v, %d, %d", s, x, is, k, e)
		}
	}
}

// Whatever is read is written as the very bytes that it was read from.
func TestWhatIsRead(t *testing.T) {
	for b := range texts([]byte{0, 1, 2, 3, 4, 0x3f, 0x40, 0x80, 0xc0}, 5) {
		if x, k, e := wire.TakeBytes(b); e == api.OK {
			if w, e := wire.Bytes(x); !bytes.Equal(w, b[:k]) || e != api.OK {
				t.Fatalf("vector %v: read as %v, written as %v, %d", b, x, w, e)
			}
		}
		if l, k, e := wire.Split(b); e == api.OK {
			if w, e := wire.Join(l...); !bytes.Equal(w, b[:k]) || e != api.OK {
				t.Fatalf("list %v: read as %v, written as %v, %d", b, l, w, e)
			}
		}
		if x, is, k, e := wire.TakeOpt(b); e == api.OK {
			if w, e := wire.Opt(x, is); !bytes.Equal(w, b[:k]) || e != api.OK {
				t.Fatalf("option %v: read as %v, %v, written as %v, %d", b, x, is, w, e)
			}
		}
		for wide := 1; wide <= len(b); wide++ {
			n, e := wire.TakeWide(b, wide)
			if w, e1 := wire.Wide(n, wide); e != api.OK || e1 != api.OK || !bytes.Equal(w, b[:wide]) {
				t.Fatalf("%v, wide %d: read as %d, %d, written as %v, %d", b, wide, n, e, w, e1)
			}
		}
	}
}

// texts are all texts of those letters that have at most so many.
func texts(letters []byte, most int) func(yield func([]byte) bool) {
	return func(yield func([]byte) bool) {
		level := [][]byte{nil}
		for range most + 1 {
			var next [][]byte
			for _, b := range level {
				if !yield(b) {
					return
				}
				for _, x := range letters {
					next = append(next, append(slices.Clone(b), x))
				}
			}
			level = next
		}
	}
}

// R2: what was handed in is left as it is.
func TestHandedInIsLeft(t *testing.T) {
	whole := []byte("\x06\x01a\x00\x02bc\x01\x02de")
	b := slices.Clone(whole)
	wire.TakeInt(b[:2])
	wire.TakeWide(b[:2], 2)
	wire.TakeBytes(b[:7])
	wire.Split(b[:7])
	wire.TakeOpt(b[7:9])
	wire.Bytes(b[:3])
	wire.Join(b[:0], b[:2], b[2:4])
	wire.Opt(b[:3], true)
	if !bytes.Equal(b, whole) {
		t.Errorf("got %q", b)
	}
	l := [][]byte{b[:1], nil, b[1:3]}
	wire.Join(l...)
	if !same(l, [][]byte{whole[:1], nil, whole[1:3]}) {
		t.Errorf("got %q", l)
	}
}

// R2: what was answered is new memory, whoever writes into what was handed in, or into another answer.
func TestAnswersAreNew(t *testing.T) {
	x := []byte("abc")
	vec, _ := wire.Bytes(x)
	list, _ := wire.Join(x, x)
	opt, _ := wire.Opt(x, true)
	x[0] = 'z'
	if string(vec) != "\x03abc" || string(list) != "\x08\x03abc\x03abc" || string(opt) != "\x01\x03abc" {
		t.Errorf("got %q, %q, %q", vec, list, opt)
	}
	v, _, _ := wire.TakeBytes(vec)
	o, _, _, _ := wire.TakeOpt(opt)
	l, _, _ := wire.Split(list)
	clear(vec)
	clear(opt)
	clear(list)
	if string(v) != "abc" || string(o) != "abc" || len(l) != 2 || string(l[0]) != "abc" || string(l[1]) != "abc" {
		t.Fatalf("got %q, %q, %q", v, o, l)
	}
	_ = append(l[0], "zzzzzzzz"...)
	clear(l[0][:cap(l[0])])
	if string(l[1]) != "abc" {
		t.Errorf("an element hangs on the one ahead of it: %q", l[1])
	}
	_ = append(v, "zzzzzzzz"...)
	if !bytes.Equal(vec, make([]byte, 4)) {
		t.Errorf("what is laid behind an answer is laid into what was read: %q", vec)
	}
	none, _ := wire.Opt(nil, false)
	none[0] = 9
	if b, _ := wire.Opt(nil, false); !bytes.Equal(b, []byte{0}) {
		t.Errorf("none hangs on an answer that was given: %v", b)
	}
}
