// Package sponge is sums: see DOC.md, chapter 1.
package sponge

import (
	"math/bits"

	"curia/api"
)

// Turn turns five words.
func Turn(x [5]uint64) [5]uint64 {
	for r := range uint64(12) {
		x[2] ^= 0xf0 - 0x0f*r
		x = spread(mix(x))
	}
	return x
}

// mix has each word meet the others, digit by digit.
func mix(x [5]uint64) [5]uint64 {
	x[0] ^= x[4]
	x[4] ^= x[3]
	x[2] ^= x[1]
	var t [5]uint64
	for i := range t {
		t[i] = ^x[i] & x[(i+1)%5]
	}
	for i := range x {
		x[i] ^= t[(i+1)%5]
	}
	x[1] ^= x[0]
	x[0] ^= x[4]
	x[3] ^= x[2]
	x[2] = ^x[2]
	return x
}

// spread has each digit of a word meet two others of that word.
func spread(x [5]uint64) [5]uint64 {
	return [5]uint64{
		twice(x[0], 19, 28),
		twice(x[1], 61, 39),
		twice(x[2], 1, 6),
		twice(x[3], 10, 17),
		twice(x[4], 7, 41),
	}
}

// twice is a word xored with itself turned right by a and by b.
func twice(x uint64, a, b int) uint64 {
	return x ^ bits.RotateLeft64(x, -a) ^ bits.RotateLeft64(x, -b)
}

// Sum is rows' sum.
func Sum(l ...[]byte) api.Hash {
	s := begin()
	for _, p := range l {
		s.take(p)
	}
	return s.end()
}

// Derive is a secret of a secret.
func Derive(h api.Hash, label string, l ...[]byte) api.Hash {
	s := begin()
	s.take(h[:])
	s.take([]byte{byte(len(label))})
	s.take([]byte(label))
	for _, p := range l {
		s.take(p)
	}
	return s.end()
}

// state takes bytes one by one, so that how they are parted leaves no trace,
// and nothing that is handed in needs to be copied.
type state struct {
	words [5]uint64
	at    int // how many of the next eight bytes are taken
}

// begin is a state that took nothing.
func begin() state { return state{words: Turn([5]uint64{32})} }

// take takes bytes.
func (s *state) take(p []byte) {
	for _, c := range p {
		s.words[0] ^= uint64(c) << (56 - 8*s.at)
		s.at++
		if s.at == 8 {
			s.words = Turn(s.words)
			s.at = 0
		}
	}
}

// end is the sum of all that was taken. The noughts behind the last byte
// change no word, so they are not taken one by one.
func (s *state) end() api.Hash {
	s.words[0] ^= 0x80 << (56 - 8*s.at)
	var h api.Hash
	for i := range 4 {
		s.words = Turn(s.words)
		for j := range 8 {
			h[8*i+j] = byte(s.words[0] >> (56 - 8*j))
		}
	}
	return h
}
