package layout

import (
	"mortise/api"
	"mortise/ctype"
	"mortise/word"
)

// tooLarge is the size of all that has more than MaxSize bytes: whatever has such a type within it is as large at least, and no sum or product of sizes grows out of an int.
const tooLarge = api.MaxSize + 1

// bits is a number of bits.
type bits int

// inBits is how many bits so many bytes have.
func inBits(bytes int) bits { return 8 * bits(bytes) }

// roundUp is the least multiple of step from n on.
func roundUp[N ~int](n, step N) N { return (n + step - 1) / step * step }

// extent is how much room a type takes, in bytes.
type extent struct {
	size  int
	align int
}

// ruler measures the types of a table, each of them once: within unions a type may stand more often than could be counted.
type ruler struct {
	types *ctype.Table
	known map[int]extent
}

// measure is how much room a whole type takes.
func (r *ruler) measure(id int) extent {
	if room, ok := r.known[id]; ok {
		return room
	}
	row, _ := r.types.Row(id)
	room := r.room(row)
	room.size = min(room.size, tooLarge)
	r.known[id] = room
	return room
}

// room is how much room a type of that row takes.
func (r *ruler) room(row api.TypeRow) extent {
	switch {
	case row.Kind == api.TArray:
		elem := r.measure(row.Elem)
		return extent{size: row.Len * elem.size, align: elem.align}
	case isRecord(row):
		return r.lay(row, func(api.Place) {})
	}
	width := word.Width(row.Kind)
	return extent{size: width, align: width}
}
