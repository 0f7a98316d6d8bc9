package memory

import "mortise/api"

// pageCells is how many cells of a block are made at one time, when the first of them is set: of large blocks often few bytes are.
const pageCells = 128

// block is a block that lives.
type block struct {
	size  int
	align int
	pages [][]api.Cell // a page that is nil has no cell that is set
}

// newBlock makes a block, none of whose bytes is set.
func newBlock(size, align int) *block {
	return &block{size: size, align: align, pages: make([][]api.Cell, (size+pageCells-1)/pageCells)}
}

// at is the cell of byte i.
func (b *block) at(i int) api.Cell {
	page := b.pages[i/pageCells]
	if page == nil {
		return api.Cell{}
	}
	return page[i%pageCells]
}

// put makes c the cell of byte i.
func (b *block) put(i int, c api.Cell) {
	page := i / pageCells
	if b.pages[page] == nil {
		b.pages[page] = make([]api.Cell, min(pageCells, b.size-page*pageCells))
	}
	b.pages[page][i%pageCells] = c
}

// all are the cells of all bytes, copied.
func (b *block) all() []api.Cell {
	cells := make([]api.Cell, 0, b.size)
	for i := range b.size {
		cells = append(cells, b.at(i))
	}
	return cells
}
