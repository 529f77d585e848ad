package pad_test

import (
	"bytes"
	"math"
	"slices"
	"testing"

	"cassock/api"
	"cassock/pad"
)

// greatest is the greatest bucket, and the first length that has none.
const greatest = 65536

// buckets are all, the least first.
func buckets() []int {
	return []int{32, 64, 128, 256, 512, 1024, 2048, 4096, 8192, 16384, 32768, 65536}
}

// bucket finds n's as the chapter says it: the least that is above n.
func bucket(n int) int {
	for _, size := range buckets() {
		if size > n {
			return size
		}
	}
	return 0
}

// edges are the lengths at and beside each bucket that can be padded, and some between.
func edges() []int {
	l := []int{0, 1, 2, 15, 16, 30, 100, 1000, 40000}
	for _, size := range buckets() {
		l = append(l, size-2, size-1, size, size+1)
	}
	return slices.DeleteFunc(l, func(n int) bool { return n >= greatest })
}

// contents are texts of n bytes that a filling might be taken for, or that might be taken for one.
func contents(n int) [][]byte {
	l := [][]byte{make([]byte, n), bytes.Repeat([]byte{128}, n), bytes.Repeat([]byte{7}, n)}
	if n > 0 {
		first, last, both := make([]byte, n), make([]byte, n), bytes.Repeat([]byte{255}, n)
		first[0], last[n-1], both[n-1] = 128, 128, 0
		l = append(l, first, last, both)
	}
	return l
}

// filled is b's filling as the chapter says it: a byte 128, and zeros up to size.
func filled(b []byte, size int) []byte {
	return slices.Concat(b, []byte{128}, make([]byte, size-len(b)-1))
}

func TestBucket(t *testing.T) {
	for n, want := range map[int]int{0: 32, 1: 32, 31: 32, 32: 64, 33: 64, 63: 64, 64: 128, 32767: 32768, 32768: 65536, 65534: 65536, 65535: 65536} {
		if size, e := pad.Bucket(n); size != want || e != api.OK {
			t.Errorf("%d: got %d, %d", n, size, e)
		}
	}
	for n := range greatest {
		if size, e := pad.Bucket(n); size != bucket(n) || e != api.OK {
			t.Fatalf("%d: got %d, %d", n, size, e)
		}
	}
}

func TestBucketWrong(t *testing.T) {
	for _, n := range []int{-1, -2, -31, -32, -33, -greatest, math.MinInt32, math.MinInt, math.MinInt + 1} {
		if size, e := pad.Bucket(n); size != 0 || e != api.ErrArg {
			t.Errorf("%d: got %d, %d", n, size, e)
		}
	}
	for _, n := range []int{greatest, greatest + 1, 2*greatest - 1, 2 * greatest, 1 << 30, 1 << 32, 1<<32 + 5, 1 << 62, math.MaxInt} {
		if size, e := pad.Bucket(n); size != 0 || e != api.ErrLong {
			t.Errorf("%d: got %d, %d", n, size, e)
		}
	}
}

func TestPad(t *testing.T) {
	for _, n := range edges() {
		for i, b := range contents(n) {
			if x, e := pad.Pad(b); !bytes.Equal(x, filled(b, bucket(n))) || e != api.OK {
				t.Errorf("%d bytes, %d: got %d bytes, %d", n, i, len(x), e)
			}
		}
	}
	if x, e := pad.Pad(nil); !bytes.Equal(x, filled(nil, 32)) || e != api.OK {
		t.Errorf("nil: got %v, %d", x, e)
	}
}

func TestPadTooLong(t *testing.T) {
	for _, n := range []int{greatest, greatest + 1, 2*greatest - 1, 2 * greatest, 1 << 20} {
		for i, b := range contents(n) {
			if x, e := pad.Pad(b); len(x) != 0 || e != api.ErrLong {
				t.Errorf("%d bytes, %d: got %d bytes, %d", n, i, len(x), e)
			}
		}
	}
}

func TestUnpadOfPad(t *testing.T) {
	for _, n := range edges() {
		for i, b := range contents(n) {
			x, _ := pad.Pad(b)
			if y, e := pad.Unpad(x); !bytes.Equal(y, b) || e != api.OK {
				t.Errorf("%d bytes, %d: got %d bytes, %d", n, i, len(y), e)
			}
		}
	}
}

// What no filling makes is ErrForm, however near it comes to one.
func TestUnpadWrong(t *testing.T) {
	a := bytes.Repeat([]byte{7}, 40)
	wrong := [][]byte{
		nil,
		{},
		{0},
		{128},
		{128, 0},
		{7},
		make([]byte, 31),
		make([]byte, 33),
		filled(nil, 31),
		filled(nil, 33),
		filled(a[:31], 33),
		filled(a, 41),
		filled(a, 63),
		filled(a, 65),
		filled(a, 96),      // three times 32: no bucket
		filled(nil, 64),    // a bucket, but not that of what is ahead of the mark
		filled(a[:31], 64), // so too, by one byte
		filled(a[:32], 128),
		filled(nil, greatest),
		filled(make([]byte, greatest), 2*greatest), // twice the greatest is none
		filled(nil, 2*greatest),
		filled(make([]byte, 2*greatest-1), 2*greatest),
	}
	for _, size := range buckets() {
		wrong = append(wrong, make([]byte, size), bytes.Repeat([]byte{1}, size), bytes.Repeat([]byte{255}, size))
		if size > 32 {
			wrong = append(wrong, filled(make([]byte, size/2-1), size))
		}
		for _, last := range []byte{1, 127, 129, 255} {
			x := filled(make([]byte, size/2), size)
			x[size-1] = last
			y := filled(make([]byte, size/2), size)
			y[size/2] = last
			wrong = append(wrong, x, y)
		}
	}
	for i, b := range wrong {
		if y, e := pad.Unpad(b); len(y) != 0 || e != api.ErrForm {
			t.Errorf("%d, of %d bytes: got %d bytes, %d", i, len(b), len(y), e)
		}
	}
}

// Of bytes of every length: what Unpad takes is what Pad makes, and nothing else.
func TestUnpadIsPadsOwn(t *testing.T) {
	for size := range 300 {
		for n := -1; n < size; n++ {
			b := make([]byte, size)
			if n >= 0 {
				b[n] = 128
			}
			y, e := pad.Unpad(b)
			if n >= 0 && bucket(n) == size {
				if !bytes.Equal(y, b[:n]) || e != api.OK {
					t.Errorf("128 at %d of %d: got %d bytes, %d", n, size, len(y), e)
				}
			} else if len(y) != 0 || e != api.ErrForm {
				t.Errorf("128 at %d of %d: got %d bytes, %d", n, size, len(y), e)
			}
		}
	}
}

// What is padded has one length just where the bucket is one: the length tells nothing else.
func TestPadTellsTheBucketAlone(t *testing.T) {
	for _, n := range edges() {
		x, _ := pad.Pad(make([]byte, n))
		for _, m := range edges() {
			y, _ := pad.Pad(bytes.Repeat([]byte{9}, m))
			if (len(x) == len(y)) != (bucket(n) == bucket(m)) {
				t.Errorf("%d and %d: got %d and %d bytes", n, m, len(x), len(y))
			}
		}
	}
}

func TestSame(t *testing.T) {
	x := make([]byte, 2*greatest)
	for i, l := range [][][]byte{
		{},
		{nil},
		{x[:31]},
		{x[:32]},
		{x[:greatest-1]},
		{nil, {}},
		{nil, x[:31]},
		{x[:31], nil, x[:1], {128, 0, 0}},
		{x[:32], x[:63]},
		{x[:63], x[:32], x[:40]},
		{x[:greatest/2], x[:greatest-1]},
		slices.Repeat([][]byte{x[:1000]}, 1000),
	} {
		if !pad.Same(l...) {
			t.Errorf("%d: got false", i)
		}
	}
	for i, l := range [][][]byte{
		{x[:greatest]},
		{x[:greatest], x[:greatest]},
		{x[:greatest+1], x[:2*greatest-1]},
		{nil, x[:greatest]},
		{x[:greatest], nil},
		{x[:greatest-1], x[:greatest]},
		{nil, x[:32]},
		{x[:32], nil},
		{x[:31], x[:32], x[:31]},
		{nil, x[:31], x[:30], x[:64]},
		{x[:32], x[:32], nil, x[:32]},
		{x[:40], x[:64], x[:64]},
		{x[:greatest/2-1], x[:greatest/2]},
	} {
		if pad.Same(l...) {
			t.Errorf("%d: got true", i)
		}
	}
}

// Same is what the padded ones' lengths say.
func TestSameIsPads(t *testing.T) {
	for _, n := range edges() {
		for _, m := range edges() {
			x, _ := pad.Pad(make([]byte, n))
			y, _ := pad.Pad(make([]byte, m))
			if got := pad.Same(make([]byte, n), make([]byte, m)); got != (len(x) == len(y)) {
				t.Errorf("%d and %d: got %v", n, m, got)
			}
		}
	}
}

// What is handed in stays as it is, even where its memory goes on behind it.
func TestHandedInIsLeft(t *testing.T) {
	for _, n := range []int{0, 5, 31, 32, 64} {
		memory := bytes.Repeat([]byte{9}, 300)
		b := memory[:n]
		x, _ := pad.Pad(b)
		pad.Same(b, b)
		pad.Unpad(b)
		if !bytes.Equal(memory, bytes.Repeat([]byte{9}, 300)) {
			t.Errorf("%d bytes: changed", n)
		}
		was := bytes.Clone(x)
		pad.Unpad(x)
		pad.Same(x)
		if !bytes.Equal(x, was) {
			t.Errorf("%d bytes, padded: changed", n)
		}
	}
}

// What is answered is new: neither writes into the other, nor into what is behind it.
func TestAnswersAreNew(t *testing.T) {
	for _, n := range []int{1, 31, 32, 64} {
		b := bytes.Repeat([]byte{9}, n)
		x, _ := pad.Pad(b)
		was := bytes.Clone(x)
		b[0] = 1
		if !bytes.Equal(x, was) {
			t.Errorf("%d bytes: what was padded changed", n)
		}
		y, _ := pad.Unpad(x)
		z := append(y, 5, 5, 5)
		z[0] = 2
		y[0] = 3
		if !bytes.Equal(x, was) {
			t.Errorf("%d bytes: Unpad's answer writes into what it was handed", n)
		}
		clear(x)
		if y[0] != 3 || !bytes.Equal(y[1:], was[1:n]) {
			t.Errorf("%d bytes: what was unpadded changed", n)
		}
	}
}
