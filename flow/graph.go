package flow

import (
	"mortise/api"
	"mortise/tac"
)

// hasGraph tells whether the graph of a function is asked for rightly (P16.1).
func hasGraph(f api.TacFunc) bool {
	if len(f.Code) < 1 || len(f.Code) > api.MaxCode || f.Temps < 0 || f.Temps > api.MaxTemps {
		return false
	}
	for _, x := range f.Code {
		if leads(x) && (x.N < 0 || x.N >= len(f.Code)) || !tempsHold(x, f.Temps) {
			return false
		}
	}
	return true
}

// leads tells whether an instruction names one at which code goes on.
func leads(x api.Ins) bool { return x.Op == api.TacJump || x.Op == api.TacBranch }

// tempsHold tells whether an instruction reads and writes only temporaries below a number.
func tempsHold(x api.Ins, temps int) bool {
	for _, t := range tac.Reads(x) {
		if t >= temps {
			return false
		}
	}
	return tac.Writes(x) < temps
}

// graph has, for each instruction, those to which edges lead from it, and those from which edges lead to it.
type graph struct{ next, last [][]int }

// graphOf makes the graph of some code.
func graphOf(code []api.Ins) graph {
	g := graph{make([][]int, len(code)), make([][]int, len(code))}
	for i := range code {
		g.next[i] = tac.Next(code, i)
		for _, n := range g.next[i] {
			g.last[n] = append(g.last[n], i)
		}
	}
	return g
}

// edge leads from one instruction to another one.
type edge struct{ from, to int }

// nowhere is from where the edges lead with which ways begin.
const nowhere = -1

// follow follows all ways from some instructions on, depth first. The closure is handed each edge as the ways come to it, first one from nowhere to each of those instructions, and tells whether ways go on from where it leads.
func follow(first []int, edges [][]int, goesOn func(from, to int) bool) {
	var open []edge
	for _, i := range first {
		open = append(open, edge{nowhere, i})
		for len(open) > 0 {
			e := open[len(open)-1]
			open = open[:len(open)-1]
			if goesOn(e.from, e.to) {
				for _, n := range edges[e.to] {
					open = append(open, edge{e.to, n})
				}
			}
		}
	}
}

// starts are the instructions at which straight runs begin.
func starts(code []api.Ins) set {
	s := set{}
	s.add(0)
	for i, x := range code {
		if leads(x) {
			s.add(x.N)
		}
		if i+1 < len(code) && (leads(x) || x.Op == api.TacRet || x.Op == api.TacExit) {
			s.add(i + 1)
		}
	}
	return s
}

// reached are the instructions to which ways lead from the first one.
func (g graph) reached() set {
	s := set{}
	follow([]int{0}, g.next, func(_, i int) bool { return s.add(i) })
	return s
}
