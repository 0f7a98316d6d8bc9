package flow

import (
	"math/bits"
	"slices"
)

// set is a set of numbers from 0 on. The numbers from 64 k on are the bits of the word at k: a loop of a long function has thousands of them, and there may be thousands of loops.
type set map[int]uint64

// add puts a number into the set, and tells whether it was not there.
func (s set) add(n int) bool {
	word, bit := s[n/64], uint64(1)<<(n%64)
	if word&bit != 0 {
		return false
	}
	s[n/64] = word | bit
	return true
}

// list has the numbers of the set, rising.
func (s set) list() []int {
	count := 0
	for _, word := range s {
		count += bits.OnesCount64(word)
	}
	list := make([]int, 0, count)
	for _, k := range rising(s) {
		list = unpacked(list, k, s[k])
	}
	return list
}

// unpacked lays the numbers that a word at k stands for behind a list.
func unpacked(list []int, k int, word uint64) []int {
	for ; word != 0; word &= word - 1 {
		list = append(list, 64*k+bits.TrailingZeros64(word))
	}
	return list
}

// rising are the keys of a map, rising.
func rising[V any](m map[int]V) []int {
	keys := make([]int, 0, len(m))
	for k := range m {
		keys = append(keys, k)
	}
	slices.Sort(keys)
	return keys
}
