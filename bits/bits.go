// Package bits is layer 1: numbers of any width, laid bit behind bit, and taken again. See shared/doc/01-bits.md.
package bits

import (
	"iter"

	"aerial/api"
)

const (
	maxBits   = 64 // of a number
	octetBits = 8  // of a byte
)

// octets is a type of its own so that a Writer embeds it.
type octets []byte

// Writer lays bits. One that is declared and nothing more is ready.
type Writer struct {
	octets
	free int // bits of the last byte that are not laid yet, fewer than octetBits
}

// Put lays the lowest bits of n, the highest first.
func (w *Writer) Put(n uint64, bits int) api.Errno {
	if w == nil {
		return api.ErrNil
	}
	if !isWidth(bits) {
		return api.ErrArg
	}
	// A shift by 64 leaves nothing, so that each number is below 2^64.
	if n>>bits != 0 {
		return api.ErrOver
	}
	for bit := range bitsOf(n, bits) {
		w.layBit(bit)
	}
	return api.OK
}

// Bytes lays the bits of s.
func (w *Writer) Bytes(s string) api.Errno {
	if w == nil {
		return api.ErrNil
	}
	if w.free == 0 {
		w.octets = append(w.octets, s...)
		return api.OK
	}
	for i := range len(s) {
		w.layAcross(s[i])
	}
	return api.OK
}

// Text tells the bytes whose bits were laid, the last one filled with bits 0.
func (w *Writer) Text() string {
	if w == nil {
		return ""
	}
	return string(w.octets)
}

func (w *Writer) layBit(bit byte) {
	if w.free == 0 {
		w.octets = append(w.octets, 0)
		w.free = octetBits
	}
	w.free--
	w.octets[len(w.octets)-1] |= bit << w.free
}

// layAcross lays a byte of which a part still goes into the last one: it must not be called while that is full.
func (w *Writer) layAcross(b byte) {
	w.octets[len(w.octets)-1] |= b >> (octetBits - w.free)
	w.octets = append(w.octets, b<<w.free)
}

// Reader takes bits.
type Reader struct {
	text string
	at   int // bits that were taken
}

// New makes a reader ahead of the first bit of s.
func New(s string) *Reader { return &Reader{text: s} }

// Take tells the number whose bits are the next ones.
func (r *Reader) Take(bits int) (uint64, api.Errno) {
	if r == nil {
		return 0, api.ErrNil
	}
	if !isWidth(bits) {
		return 0, api.ErrArg
	}
	if r.Left() < bits {
		return 0, api.ErrSpace
	}
	var n uint64
	for range bits {
		n = n<<1 | uint64(r.takeBit())
	}
	return n, api.OK
}

// Bytes tells the n bytes whose bits are the next ones.
func (r *Reader) Bytes(n int) (string, api.Errno) {
	if r == nil {
		return "", api.ErrNil
	}
	if n < 0 {
		return "", api.ErrArg
	}
	// Bytes are held against bytes, as 8 n may run over.
	if r.Left()/octetBits < n {
		return "", api.ErrSpace
	}
	out := make([]byte, n)
	for i := range out {
		out[i] = r.takeOctet()
	}
	return string(out), api.OK
}

// Left tells how many bits are left.
func (r *Reader) Left() int {
	if r == nil {
		return 0
	}
	return len(r.text)*octetBits - r.at
}

func (r *Reader) takeBit() byte {
	bit := r.text[r.at/octetBits] >> (octetBits - 1 - r.at%octetBits) & 1
	r.at++
	return bit
}

func (r *Reader) takeOctet() byte {
	first, gone := r.at/octetBits, r.at%octetBits
	b := r.text[first] << gone
	// The last byte has none behind it, but none is needed where nothing of it is gone.
	if gone > 0 {
		b |= r.text[first+1] >> (octetBits - gone)
	}
	r.at += octetBits
	return b
}

func isWidth(bits int) bool { return 1 <= bits && bits <= maxBits }

// bitsOf tells the lowest bits of n, the highest first.
func bitsOf(n uint64, bits int) iter.Seq[byte] {
	return func(yield func(byte) bool) {
		for i := bits - 1; i >= 0; i-- {
			if !yield(byte(n>>i) & 1) {
				return
			}
		}
	}
}
