package ctype

import (
	"slices"

	"mortise/api"
	"mortise/word"
)

// noBits are the Bits of a member that is no bit-field.
const noBits = -1

// Complete gives a struct or a union its members.
func (t *Table) Complete(id int, members []api.Member) api.Errno {
	switch {
	case !t.made():
		return api.ErrNil
	case !isRecord(t.kind(id)):
		return api.ErrType
	case t.rows[id].Done:
		return api.ErrDone
	}
	if err := t.refusal(members); err != api.OK {
		return err
	}
	t.rows[id].Members = copyMembers(members)
	t.rows[id].Done = true
	return api.OK
}

// refusal is why no struct or union of the table may have these members, or OK.
func (t *Table) refusal(members []api.Member) api.Errno {
	if len(members) < 1 || len(members) > api.MaxMembers {
		return api.ErrArg
	}
	for i, m := range members {
		switch {
		case !t.has(m.Type):
			return api.ErrType
		case !t.Whole(m.Type):
			return api.ErrIncomplete
		case !isBits(t.kind(m.Type), m.Bits):
			return api.ErrBits
		case !isNamed(m, members[:i]):
			return api.ErrTag
		}
	}
	return api.OK
}

// isBits tells whether a member of a kind may have these Bits.
func isBits(k api.TypeKind, bits int) bool {
	return bits == noBits || isInteger(k) && 0 <= bits && bits <= widest(k)
}

// widest is how many bits a bit-field of a kind may have.
func widest(k api.TypeKind) int {
	if k == api.TBool {
		return 1
	}
	return 8 * word.Width(k)
}

// isNamed tells whether a member may have its name behind the earlier ones: only bit-fields do without one, and those that part units have none.
func isNamed(m api.Member, earlier []api.Member) bool {
	if m.Name == "" {
		return m.Bits >= 0
	}
	taken := slices.ContainsFunc(earlier, func(e api.Member) bool { return e.Name == m.Name })
	return isName(m.Name) && !taken && m.Bits != 0
}
