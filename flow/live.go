package flow

import (
	"math/bits"

	"mortise/api"
	"mortise/tac"
)

// asked tells which temporaries are asked for ahead of each instruction, and behind it: of each temporary the ways are gone back from the instructions that read it, as far as to those that write it.
func asked(f api.TacFunc) (ahead, behind table) {
	g, written := graphOf(f.Code), written(f.Code)
	ahead, behind = tableOf(f), tableOf(f)
	for t, list := range readers(f) {
		follow(list, g.last, func(from, i int) bool {
			if from != nowhere {
				behind.add(i, t)
				if written[i] == t {
					return false
				}
			}
			return ahead.add(i, t)
		})
	}
	return ahead, behind
}

// readers are the instructions that read each temporary, each as often as it does.
func readers(f api.TacFunc) [][]int {
	list := make([][]int, f.Temps)
	for i, x := range f.Code {
		for _, t := range tac.Reads(x) {
			list[t] = append(list[t], i)
		}
	}
	return list
}

// written are the temporaries that instructions write, below 0 where they write none.
func written(code []api.Ins) []int {
	list := make([]int, len(code))
	for i, x := range code {
		list[i] = tac.Writes(x)
	}
	return list
}

// table has temporaries of instructions. Row k has, for each instruction, a word whose bits are the temporaries from 64 k on: while one temporary is looked at, its words stand close together, whose number may be great.
type table [][]uint64

// tableOf makes a table of nothing for a function.
func tableOf(f api.TacFunc) table {
	t := make(table, (f.Temps+63)/64)
	for k := range t {
		t[k] = make([]uint64, len(f.Code))
	}
	return t
}

// add gives an instruction a temporary, and tells whether it did not have it.
func (t table) add(i, temp int) bool {
	word, bit := &t[temp/64][i], uint64(1)<<(temp%64)
	if *word&bit != 0 {
		return false
	}
	*word |= bit
	return true
}

// lists has the temporaries of each of so many instructions, rising.
func (t table) lists(count int) [][]int {
	all := make([][]int, count)
	for i := range all {
		all[i] = t.list(i)
	}
	return all
}

// list has the temporaries of an instruction, rising.
func (t table) list(i int) []int {
	count := 0
	for _, row := range t {
		count += bits.OnesCount64(row[i])
	}
	list := make([]int, 0, count)
	for k, row := range t {
		list = unpacked(list, k, row[i])
	}
	return list
}
