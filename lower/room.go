package lower

import (
	"slices"
	"sort"

	"mortise/api"
)

// How many spare slots functions have. A slot has a block for as long as its call goes on, whether it is come to or not, and there are MaxBlocks of them for all calls: not every function can have so many that each record that it may hold has its own bytes.
//
// Nor need it. Of a run that takes more than freeSteps steps on C's machine, code's run may end by StopFuel; and that machine takes a step for each byte of a record that it reads. So code takes slots again, when it has none left, and goes on without end, unless they were lost meanwhile. A function that ended without a record has taken no steps for it, but the call for which that was meant never begins: all that is held by then is lost.

// freeSteps is how many steps a run may take, so that its code's run must not end by StopFuel.
const freeSteps = (api.MaxFuel - 65536) / 64

// leastRoom is with how many spare slots no run is short of them within freeSteps steps. What is held has at most four bytes of room for three steps: one that was read takes two steps besides those of its bytes. Two slots behind each other are together more than half full, since what begins the second one had no room in the first one. Two more are left out, those with which what is held begins and ends.
const leastRoom = 2 + (2*4*freeSteps+3*api.MaxSize-1)/(3*api.MaxSize)

// sureRoom is how many spare slots each function may have, so that there are blocks for all calls, whatever the program is.
const sureRoom = (api.MaxBlocks - api.MaxGlobals - api.MaxLive) / api.MaxCalls

// roomsFor tells how many spare slots each function may have that asked for more, and anyRoom of the others; nil, if all may have what they asked for, and locals their own slots.
func roomsFor(p *api.Prog, all []*builder) []int {
	c := callsOf(p, all)
	if c.fit((*builder).ownSlots, anyRoom) && !slices.ContainsFunc(all, (*builder).hasTooMany) {
		return nil
	}
	common := sureRoom + sort.Search(api.MaxSlots-sureRoom, func(more int) bool {
		return !c.fit((*builder).fewestSlots, sureRoom+more+1)
	})
	var rooms []int
	for _, b := range all {
		room := max(leastRoom, min(common, api.MaxSlots-b.fewestSlots()))
		if b.asked() <= room {
			room = anyRoom
		}
		rooms = append(rooms, room)
	}
	return rooms
}

// ownSlots is how many slots the function's locals have, if each has its own.
func (b *builder) ownSlots() int { return len(b.source.Locals) }

// fewestSlots is how many they have, if they share them.
func (b *builder) fewestSlots() int {
	few, _ := packed(b.localSlots(), b.named())
	return len(few)
}

// hasTooMany tells whether the function asked for more slots than it may have, even if its locals share theirs.
func (b *builder) hasTooMany() bool {
	return b.fewestSlots()+b.asked() > api.MaxSlots
}

// calls is which functions call which others.
type calls struct {
	prog    *api.Prog
	all     []*builder
	callees [][]int // of each function
}

// callsOf finds them in code.
func callsOf(p *api.Prog, all []*builder) *calls {
	c := &calls{prog: p, all: all}
	for _, b := range all {
		var l []int
		for _, x := range b.Code {
			if x.Op == api.TacCall {
				l = append(l, x.N)
			}
		}
		slices.Sort(l)
		c.callees = append(c.callees, slices.Compact(l))
	}
	return c
}

// fit tells whether there are blocks for all calls that may go on at one time, if each function has so many slots for its locals, and at most so many spare ones. (C's machine takes no more than MaxLive locals.)
func (c *calls) fit(locals func(b *builder) int, room int) bool {
	spare := func(b *builder) int { return min(b.asked(), room) }
	both := func(b *builder) int { return locals(b) + spare(b) }
	return len(c.prog.Globals)+min(c.heaviest(both), api.MaxLive+c.heaviest(spare)) <= api.MaxBlocks
}

// heaviest is the most that calls weigh together that may go on at one time.
func (c *calls) heaviest(weight func(b *builder) int) int {
	var own []int
	for _, b := range c.all {
		own = append(own, weight(b))
	}
	most := make([]int, len(own)) // of as many calls within calls, the outermost one that function's
	for range api.MaxCalls {
		longer := slices.Clone(own)
		for n, l := range c.callees {
			for _, m := range l {
				longer[n] = max(longer[n], own[n]+most[m])
			}
		}
		most = longer
	}
	return most[c.prog.Main]
}
