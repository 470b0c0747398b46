// Package code: bytes. See doc/01-code.md.
package code

import (
	"bytes"
	"sync"

	"ledgerline/api"
)

// How many bytes a number, a text's length have; how many a text has at most.
const (
	intBytes    = 8
	lengthBytes = 2
	mostText    = 1<<16 - 1
)

// Int answers b, and n behind it as eight bytes, the lowest first.
func Int(b []byte, n int) []byte {
	return low(longer(b, intBytes), n, intBytes)
}

// Byte answers b, and n's lowest eight bits behind it.
func Byte(b []byte, n int) []byte {
	return low(longer(b, 1), n, 1)
}

// Text answers b, and behind it how many bytes s has, and these: no more than its first 65535.
func Text(b []byte, s string) []byte {
	s = s[:min(len(s), mostText)]
	return append(low(longer(b, lengthBytes+len(s)), len(s), lengthBytes), s...)
}

// longer copies b, with room for just more bytes: what is handed in may have spare room that others look at.
func longer(b []byte, more int) []byte {
	return append(make([]byte, 0, len(b)+more), b...)
}

// low puts n's lowest bytes, as many as size says, behind b, the lowest first.
func low(b []byte, n, size int) []byte {
	u := uint64(n)
	for range size {
		b = append(b, byte(u))
		u >>= 8
	}
	return b
}

// Reader reads what was written, and keeps the first error.
type Reader struct {
	rest  []byte
	first sync.Once // done when there is an error, so that none takes its place
	err   api.Errno
}

// New answers a reader of b, as b is now: whoever has b may write over it later.
func New(b []byte) *Reader {
	return &Reader{rest: bytes.Clone(b)}
}

// Int reads a number of eight bytes.
func (r *Reader) Int() int {
	return sound(r, r.readInt)
}

// Byte reads one byte: 0 to 255.
func (r *Reader) Byte() int {
	return sound(r, r.readByte)
}

// Text reads a text.
func (r *Reader) Text() string {
	return sound(r, r.readText)
}

// Fail makes e the reader's error, if it has none.
func (r *Reader) Fail(e api.Errno) {
	if e != api.OK {
		r.first.Do(func() { r.err = e })
	}
}

// End answers the reader's error. Bytes that are left are told, not kept as an error: they can still be read.
func (r *Reader) End() api.Errno {
	if r.err == api.OK && len(r.rest) > 0 {
		return api.ErrMore
	}
	return r.err
}

// sound answers what read reads of r: nothing, its zero value, once there is an error.
func sound[T any](r *Reader, read func() T) T {
	if r.err != api.OK {
		var zero T
		return zero
	}
	return read()
}

func (r *Reader) readInt() int {
	return r.number(intBytes)
}

func (r *Reader) readByte() int {
	return r.number(1)
}

func (r *Reader) readText() string {
	return string(r.take(r.number(lengthBytes)))
}

// number reads a number of so many bytes, the lowest first.
func (r *Reader) number(size int) int {
	var u uint64
	for i, x := range r.take(size) {
		u |= uint64(x) << (8 * i)
	}
	return int(u)
}

// take takes the next n bytes off; where they lack, none of them (so that what is made of them is a zero value), and the reader has its error.
func (r *Reader) take(n int) []byte {
	if n > len(r.rest) {
		r.Fail(api.ErrCut)
		return nil
	}
	b := r.rest[:n]
	r.rest = r.rest[n:]
	return b
}
