// Package wire is layer 1: numbers, vectors of bytes, lists and options as bytes, in one form. See shared/doc/01-wire.md.
package wire

import (
	"bytes"

	"cassock/api"
)

// A number below short has one byte, one below middle two, one below limit four; none is greater.
const (
	short  = 1 << 6
	middle = 1 << 14
	limit  = 1 << 30
)

// The highest two bits of a number's first byte tell how many bytes it has; these two are of none.
const noSize = 3

// widest is how many bytes a uint64 has.
const widest = 8

// Int and TakeInt are a number, Wide and TakeWide one of so many bytes.
func Int(n int) ([]byte, api.Errno) {
	if n < 0 || n >= limit {
		return nil, api.ErrArg
	}
	return appendInt(nil, n), api.OK
}

func TakeInt(b []byte) (int, int, api.Errno) {
	if len(b) == 0 {
		return 0, 0, api.ErrShort
	}
	high := b[0] >> 6
	if high == noSize {
		return 0, 0, api.ErrForm
	}
	size := 1 << high
	if len(b) < size {
		return 0, 0, api.ErrShort
	}
	n := int(b[0] & (short - 1))
	for _, x := range b[1:size] {
		n = n<<8 | int(x)
	}
	if intSize(n) != size {
		return 0, 0, api.ErrForm
	}
	return n, size, api.OK
}

func Wide(n uint64, wide int) ([]byte, api.Errno) {
	// With widest bytes the shift leaves nothing of any n: all go in.
	if !isWide(wide) || n>>(8*wide) != 0 {
		return nil, api.ErrArg
	}
	b := make([]byte, wide)
	for i := range b {
		b[wide-1-i] = byte(n >> (8 * i))
	}
	return b, api.OK
}

func TakeWide(b []byte, wide int) (uint64, api.Errno) {
	if !isWide(wide) {
		return 0, api.ErrArg
	}
	if len(b) < wide {
		return 0, api.ErrShort
	}
	n := uint64(0)
	for _, x := range b[:wide] {
		n = n<<8 | uint64(x)
	}
	return n, api.OK
}

// Bytes and TakeBytes are a vector, Join and Split a list, Opt and TakeOpt an option.
func Bytes(x []byte) ([]byte, api.Errno) {
	return vector(x)
}

func TakeBytes(b []byte) ([]byte, int, api.Errno) {
	x, n, e := look(b)
	if e != api.OK {
		return nil, 0, e
	}
	return bytes.Clone(x), n, api.OK
}

func Join(l ...[]byte) ([]byte, api.Errno) {
	n := 0
	for _, x := range l {
		n += vectorSize(x)
		// Asked at each element, so that no sum of lengths runs over.
		if n >= limit {
			return nil, api.ErrArg
		}
	}
	b := make([]byte, 0, intSize(n)+n)
	b = appendInt(b, n)
	for _, x := range l {
		b = appendVector(b, x)
	}
	return b, api.OK
}

func Split(b []byte) ([][]byte, int, api.Errno) {
	rest, n, e := look(b)
	if e != api.OK {
		return nil, 0, e
	}
	var l [][]byte
	for len(rest) > 0 {
		x, k, e := TakeBytes(rest)
		// The list's own bytes are all there: an element that is short does not end where they do.
		if e != api.OK {
			return nil, 0, api.ErrForm
		}
		l = append(l, x)
		rest = rest[k:]
	}
	return l, n, api.OK
}

func Opt(x []byte, is bool) ([]byte, api.Errno) {
	if !is {
		return []byte{0}, api.OK
	}
	return vector(x, 1)
}

func TakeOpt(b []byte) ([]byte, bool, int, api.Errno) {
	if len(b) == 0 {
		return nil, false, 0, api.ErrShort
	}
	switch b[0] {
	case 0:
		return nil, false, 1, api.OK
	case 1:
		x, n, e := TakeBytes(b[1:])
		if e != api.OK {
			return nil, false, 0, e
		}
		return x, true, 1 + n, api.OK
	}
	return nil, false, 0, api.ErrForm
}

func isWide(wide int) bool {
	return wide >= 1 && wide <= widest
}

// intSize is how many bytes a number from 0 on has; of one that has none it answers the most there may be.
func intSize(n int) int {
	switch {
	case n < short:
		return 1
	case n < middle:
		return 2
	}
	return 4
}

func appendInt(b []byte, n int) []byte {
	switch intSize(n) {
	case 1:
		return append(b, byte(n))
	case 2:
		return append(b, 1<<6|byte(n>>8), byte(n))
	}
	return append(b, 2<<6|byte(n>>24), byte(n>>16), byte(n>>8), byte(n))
}

func vectorSize(x []byte) int {
	return intSize(len(x)) + len(x)
}

func appendVector(b, x []byte) []byte {
	return append(appendInt(b, len(x)), x...)
}

// vector is x's vector, perhaps behind a head, in memory of its own.
func vector(x []byte, head ...byte) ([]byte, api.Errno) {
	if len(x) >= limit {
		return nil, api.ErrArg
	}
	b := make([]byte, 0, len(head)+vectorSize(x))
	return appendVector(append(b, head...), x), api.OK
}

// look is TakeBytes without a copy: what it answers is a piece of b, and may not be handed out.
func look(b []byte) ([]byte, int, api.Errno) {
	size, n, e := TakeInt(b)
	if e != api.OK {
		return nil, 0, e
	}
	if len(b)-n < size {
		return nil, 0, api.ErrShort
	}
	return b[n : n+size], n + size, api.OK
}
