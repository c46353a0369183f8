// Package varint is layer 1: numbers in as few bytes as they need. See shared/doc/01-varint.md.
package varint

import (
	"slices"

	"alibi/api"
)

// MaxLen is how many bytes a number has at most.
const MaxLen = 10

// more is what each byte of a number but its last one has on top of its digit.
const more = 128

// Put is how a number stands.
func Put(v uint64) []byte { return stand(nil, v) }

// Size is how many bytes that are.
func Size(v uint64) int {
	n := 1
	for ; v >= more; v >>= 7 {
		n++
	}
	return n
}

// Get is the number that stands there.
func Get(b []byte, at int) (v uint64, next int, e api.Errno) {
	if at < 0 || at > len(b) {
		return 0, 0, api.ErrArg
	}
	rest := b[at:]
	for i := range min(len(rest), MaxLen) {
		c := rest[i]
		v |= uint64(c%more) << (7 * i)
		if c >= more {
			continue
		}
		if !ends(c, i) {
			return 0, 0, api.ErrVarint
		}
		return v, at + i + 1, api.OK
	}
	if len(rest) >= MaxLen {
		return 0, 0, api.ErrVarint
	}
	return 0, 0, api.ErrShort
}

// ends tells whether c, which is below 128, may be a number's last byte, with i bytes ahead of it.
func ends(c byte, i int) bool {
	if i == MaxLen-1 {
		return c == 1 // the tenth digit has place for the 64th binary digit alone
	}
	return c != 0 || i == 0 // a highest digit 0 would be a second form of a shorter number
}

// stand puts a number's bytes behind b.
func stand(b []byte, v uint64) []byte {
	for ; v >= more; v >>= 7 {
		b = append(b, byte(v%more)+more)
	}
	return append(b, byte(v))
}

// Writer writes numbers and bytes.
type Writer struct {
	b []byte
}

// Number writes numbers.
func (w *Writer) Number(l ...uint64) api.Errno {
	if w == nil {
		return api.ErrNil
	}
	for _, v := range l {
		w.b = stand(w.b, v)
	}
	return api.OK
}

// Raw writes bytes.
func (w *Writer) Raw(b ...byte) api.Errno {
	if w == nil {
		return api.ErrNil
	}
	w.b = append(w.b, b...)
	return api.OK
}

// Text writes bytes, with how many they are ahead.
func (w *Writer) Text(b []byte) api.Errno {
	if w == nil {
		return api.ErrNil
	}
	w.b = append(stand(w.b, uint64(len(b))), b...)
	return api.OK
}

// Bytes are what was written.
func (w *Writer) Bytes() []byte {
	if w == nil {
		return nil
	}
	return slices.Clone(w.b)
}

// Len is how many bytes were written.
func (w *Writer) Len() int {
	if w == nil {
		return 0
	}
	return len(w.b)
}

// told is what a reader was told: its place, and its first error.
type told struct {
	at  int
	err api.Errno
}

// fail keeps an error, at the place where the call that it is of began.
func (t *told) fail(at int, e api.Errno) { t.at, t.err = at, e }

// Reader reads them.
type Reader struct {
	told
	b []byte
}

// Read is a reader of bytes.
func Read(b []byte) *Reader { return &Reader{b: slices.Clone(b)} }

// Number reads a number.
func (r *Reader) Number() uint64 {
	if r.Err() != api.OK {
		return 0
	}
	v, next, e := Get(r.b, r.at)
	if e != api.OK {
		r.fail(r.at, e)
		return 0
	}
	r.at = next
	return v
}

// Numbers reads some.
func (r *Reader) Numbers(n int) []uint64 {
	if r.Err() != api.OK {
		return nil
	}
	from := r.at
	if n < 0 {
		r.fail(from, api.ErrArg)
		return nil
	}
	var l []uint64 // it grows with what is read: n may be far more than there is
	for range n {
		v := r.Number()
		if r.err != api.OK {
			r.fail(from, r.err)
			return nil
		}
		l = append(l, v)
	}
	return l
}

// Raw reads bytes.
func (r *Reader) Raw(n int) []byte {
	if r.Err() != api.OK {
		return nil
	}
	if n < 0 {
		r.fail(r.at, api.ErrArg)
		return nil
	}
	if n > r.Left() {
		r.fail(r.at, api.ErrShort)
		return nil
	}
	from := r.at
	r.at += n
	return slices.Clone(r.b[from:r.at])
}

// Text reads bytes, with how many they are ahead.
func (r *Reader) Text() []byte {
	from := r.At()
	n := r.Number()
	if r.Err() != api.OK {
		return nil
	}
	if n > uint64(r.Left()) { // held as uint64: as an int it may be below 0
		r.fail(from, api.ErrShort)
		return nil
	}
	return r.Raw(int(n))
}

// Left is how many bytes are left.
func (r *Reader) Left() int {
	if r == nil {
		return 0
	}
	return len(r.b) - r.at
}

// At is the place.
func (r *Reader) At() int {
	if r == nil {
		return 0
	}
	return r.at
}

// Err is the first error.
func (r *Reader) Err() api.Errno {
	if r == nil {
		return api.ErrNil
	}
	return r.err
}
