// Package pack is layer 1: see shared/doc/01-pack.md.
package pack

import "bellhop/api"

const (
	maxSize = 8   // bytes of a number
	maxText = 255 // bytes of a text: its length is one byte
)

// Writer of fields, for the f that Write passes it to.
type Writer struct {
	run
	done []byte
}

// Write calls f and returns the bytes that it appended.
func Write(f func(w *Writer)) (string, api.Errno) {
	w := &Writer{}
	if f != nil {
		w.call(func() { f(w) })
	}
	if w.err != api.OK {
		return "", w.err
	}
	return string(w.done), api.OK
}

// Num appends a number in so many bytes.
func (w *Writer) Num(n uint64, size int) {
	w.check()
	// A shift by all 64 bits leaves 0, so every number fits into maxSize.
	if !sized(size) || n>>(8*size) != 0 {
		w.fail(api.ErrRange)
		return
	}
	for i := size - 1; i >= 0; i-- {
		w.done = append(w.done, byte(n>>(8*i)))
	}
}

// Text appends a text with its length in a byte ahead.
func (w *Writer) Text(s string) {
	w.check()
	if len(s) > maxText {
		w.fail(api.ErrLong)
		return
	}
	w.done = append(w.done, byte(len(s)))
	w.done = append(w.done, s...)
}

// Raw appends bytes as they are.
func (w *Writer) Raw(s string) {
	w.check()
	w.done = append(w.done, s...)
}

// Reader of fields, for the f that Read passes it to.
type Reader struct {
	run
	rest string
}

// Read calls f, which must read all of s.
func Read(s string, f func(r *Reader)) api.Errno {
	r := &Reader{rest: s}
	if f != nil {
		r.call(func() { f(r) })
	}
	if r.err == api.OK && r.rest != "" {
		return api.ErrLong
	}
	return r.err
}

// Num reads a number of so many bytes.
func (r *Reader) Num(size int) uint64 {
	r.check()
	if !sized(size) {
		r.fail(api.ErrRange)
		return 0
	}
	s := r.take(size)
	n := uint64(0)
	for i := range len(s) {
		n = n<<8 | uint64(s[i])
	}
	return n
}

// Text reads a text with its length in a byte ahead.
func (r *Reader) Text() string {
	r.check()
	return r.take(int(r.Num(1)))
}

// Raw reads so many bytes as they are.
func (r *Reader) Raw(n int) string {
	r.check()
	if n < 0 {
		r.fail(api.ErrRange)
		return ""
	}
	return r.take(n)
}

// Left returns how many bytes have not been read.
func (r *Reader) Left() int {
	r.check()
	return len(r.rest)
}

// take the next n bytes, which must be there.
func (r *Reader) take(n int) string {
	if n > len(r.rest) {
		r.fail(api.ErrShort)
		return ""
	}
	s := r.rest[:n]
	r.rest = r.rest[n:]
	return s
}

// sized reports whether a number may have so many bytes.
func sized(size int) bool {
	return size >= 1 && size <= maxSize
}
