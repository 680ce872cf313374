// Package octet is layer 1: numbers and bytes, one behind the other; see shared/doc/01-octet.md.
package octet

import (
	"bytes"
	"iter"
)

// Out has bytes that were written, or is spoilt. Its zero has none.
type Out struct {
	shelf  *shelf
	size   int
	spoilt bool
}

// shelf is where an Out's bytes stand. What stands on it is never written
// over, so that an Out that is copied as a value, and its copy, can both go
// on without changing each other's bytes.
type shelf struct{ kept []byte }

// Put writes a number's bytes, the highest first.
func (o *Out) Put(width int, n uint64) *Out {
	if o.Spoilt() {
		return o
	}
	if !fits(width, n) {
		*o = Out{spoilt: true}
		return o
	}
	to := o.ownShelf()
	for b := range bytesOf(width, n) {
		to.kept = append(to.kept, b)
	}
	o.size = len(to.kept)
	return o
}

// Tail writes bytes as they are.
func (o *Out) Tail(b []byte) *Out {
	if o.Spoilt() {
		return o
	}
	to := o.ownShelf()
	to.kept = append(to.kept, b...)
	o.size = len(to.kept)
	return o
}

// Len is how many bytes were written.
func (o *Out) Len() int { return len(o.written()) }

// All is a copy of the bytes that were written.
func (o *Out) All() []byte { return bytes.Clone(o.written()) }

// Spoilt says whether the Out is; one that is none is, too.
func (o *Out) Spoilt() bool { return o == nil || o.spoilt }

// written is what the Out has of its shelf; a copy may have put more there.
func (o *Out) written() []byte {
	if o.Spoilt() || o.shelf == nil {
		return nil
	}
	return o.shelf.kept[:o.size]
}

// ownShelf is a shelf at whose end the Out may go on: its own one, unless a
// copy of the Out has already gone on there.
func (o *Out) ownShelf() *shelf {
	if o.shelf == nil || o.size != len(o.shelf.kept) {
		o.shelf = &shelf{kept: bytes.Clone(o.written())}
	}
	return o.shelf
}

// In has bytes that are left, or is spoilt. Its zero is spoilt: nobody gave
// it bytes.
type In struct {
	left  []byte
	sound bool
}

// From is an In with a copy of b left.
func From(b []byte) *In { return &In{left: bytes.Clone(b), sound: true} }

// Get reads the number whose bytes stand next.
func (i *In) Get(width int) uint64 {
	if !isWidth(width) {
		i.spoil()
	}
	var n uint64
	for _, b := range i.next(width) {
		n = n<<8 | uint64(b)
	}
	return n
}

// Take reads the next n bytes.
func (i *In) Take(n int) []byte { return bytes.Clone(i.next(n)) }

// Left is how many bytes are left.
func (i *In) Left() int {
	if i.Spoilt() {
		return 0
	}
	return len(i.left)
}

// Spoilt says whether the In is; one that is none is, too.
func (i *In) Spoilt() bool { return i == nil || !i.sound }

// Done says whether all is read, and nothing beyond it was asked for.
func (i *In) Done() bool { return !i.Spoilt() && len(i.left) == 0 }

// next cuts the next n bytes off what is left, or spoils the In.
func (i *In) next(n int) []byte {
	if i.Spoilt() {
		return nil
	}
	if n < 0 || n > len(i.left) {
		i.spoil()
		return nil
	}
	cut := i.left[:n]
	i.left = i.left[n:]
	return cut
}

// spoil lets go of all that was left.
func (i *In) spoil() {
	if i != nil {
		*i = In{}
	}
}

// isWidth says whether a number may have so many bytes.
func isWidth(width int) bool {
	switch width {
	case 1, 2, 4, 8:
		return true
	}
	return false
}

// fits says whether n is a number of that width.
func fits(width int, n uint64) bool { return isWidth(width) && n>>(8*width) == 0 }

// bytesOf tells a number's bytes, the highest first.
func bytesOf(width int, n uint64) iter.Seq[byte] {
	return func(yield func(byte) bool) {
	telling:
		for told := range width {
			if !yield(byte(n >> (8 * (width - 1 - told)))) {
				break telling
			}
		}
	}
}
