// Package bset is layer 1: sets of bytes: see shared/doc/01-bset.md.
package bset

import (
	"iter"
	"math/bits"
	"slices"

	"gimlet/api"
)

// wordBits is how many bytes a word of a set tells of.
const wordBits = 64

// Has tells whether a byte is in a set.
func Has(s api.Set, b byte) bool { return s[b/wordBits]>>(b%wordBits)&1 == 1 }

// With tells a set with some bytes more.
func With(s api.Set, l ...byte) api.Set {
	for b := range slices.Values(l) {
		s[b/wordBits] |= 1 << (b % wordBits)
	}
	return s
}

// Range tells the set of the bytes from one to another one.
func Range(lo, hi byte) api.Set { return Less(below(int(hi)+1), below(int(lo))) }

// below tells the set of the bytes below n, which is not below 0.
func below(n int) api.Set {
	var s api.Set
	for i := range s {
		// A shift by the whole word leaves nothing, so that less 1 all bits are there.
		s[i] = 1<<min(max(n-i*wordBits, 0), wordBits) - 1
	}
	return s
}

// Or tells what is in either set.
func Or(a, b api.Set) api.Set {
	for i, w := range b {
		a[i] |= w
	}
	return a
}

// And tells what is in both sets.
func And(a, b api.Set) api.Set {
	for i, w := range b {
		a[i] &= w
	}
	return a
}

// Less tells what is in the first set, and not in the second one.
func Less(a, b api.Set) api.Set {
	for i, w := range b {
		a[i] &^= w
	}
	return a
}

// Not tells what is not in a set.
func Not(s api.Set) api.Set {
	for i, w := range s {
		s[i] = ^w
	}
	return s
}

// Count tells how many bytes are in a set.
func Count(s api.Set) int {
	n := 0
	for _, w := range s {
		n += bits.OnesCount64(w)
	}
	return n
}

// Next tells the least byte of a set that is not below a number; -1: there is none.
func Next(s api.Set, from int) int {
	// What is below 0 is cut off first: taken less, it could leave its type.
	s = Less(s, below(max(from, 0)))
	for i, w := range s {
		if w != 0 {
			return i*wordBits + bits.TrailingZeros64(w)
		}
	}
	return -1
}

// All goes through the bytes of a set.
func All(s api.Set) iter.Seq[byte] {
	return func(yield func(byte) bool) {
		for b := Next(s, 0); b >= 0; b = Next(s, b+1) {
			if !yield(byte(b)) {
				return
			}
		}
	}
}

// Runs tells the runs of a set.
func Runs(s api.Set) [][2]byte {
	var l [][2]byte
	for b := range All(s) {
		if k := len(l) - 1; k >= 0 && l[k][1]+1 == b {
			l[k][1] = b
		} else {
			l = append(l, [2]byte{b, b})
		}
	}
	return l
}
