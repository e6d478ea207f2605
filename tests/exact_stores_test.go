package tests

import (
	"slices"

	"loop.example/g01225/impl"
)

// forCodesAndPages calls use with all sides of codes and pages that have spreads.
func forCodesAndPages(use func(c, b int64)) {
	for _, c := range sides {
		for _, b := range sides {
			if c*b <= 8 {
				use(c, b)
			}
		}
	}
}

// waves returns as many waves of a side as told, with numbers between 2^(low) and 2^(high + 1).
func (n *numbers) waves(count int, side int64, low, high int) (list []impl.Wave) {
	for range count {
		list = append(list, n.wave(side, low, high))
	}
	return list
}

// wholeWave returns a wave of a side whose cells have whole numbers in -limit..limit as parts.
func (n *numbers) wholeWave(side, limit int64) impl.Wave {
	w := impl.Wave{Side: side}
	first, second := n.whole(side*side, limit), n.whole(side*side, limit)
	for i := range first {
		w.Cells[i] = complex(first[i], second[i])
	}
	return w
}

// byColumns returns the places of the cells of a side, column by column.
func byColumns(side int64) (places []int64) {
	for x := range side {
		for y := range side {
			places = append(places, side*y+x)
		}
	}
	return places
}

// cellsOfBlock returns the places of the cells of a store of the side n that are in the block with
// the place p, in order, the blocks having the side c.
func cellsOfBlock(n, c, p int64) (cells []int64) {
	b := n / c
	for i := range n * n {
		if i/n/c == p/b && i%n/c == p%b {
			cells = append(cells, i)
		}
	}
	return cells
}

// added returns the sum of two waves.
func (c *calculation) added(w, v impl.Wave) impl.Wave {
	return c.cells(w.Side, func(i int64) complex64 { return c.sum(w.Cells[i], v.Cells[i]) })
}

// spread returns the spread of a page by a code, block by block.
func (c *calculation) spread(code, page impl.Wave) impl.Wave {
	w := impl.Wave{Side: code.Side * page.Side}
	for p := range page.Side * page.Side {
		for k, cell := range cellsOfBlock(w.Side, code.Side, p) {
			w.Cells[cell] = c.product(page.Cells[p], code.Cells[k])
		}
	}
	return w
}

// stored returns the store of codes and pages, the spreads being added in the order that is told.
func (c *calculation) stored(codes, pages []impl.Wave, order []int64) impl.Wave {
	sum := flat(codes[0].Side*pages[0].Side, 0)
	for _, i := range order {
		sum = c.added(sum, c.spread(codes[i], pages[i]))
	}
	return sum
}

// read returns the page that is read from a store with a code behind a mask, the cells of the code
// being gone through in the order that is told.
func (c *calculation) read(store, code, m impl.Wave, order []int64) impl.Wave {
	return c.cells(store.Side/code.Side, func(p int64) complex64 {
		cells, sum, open := cellsOfBlock(store.Side, code.Side, p), complex64(0), float32(0)
		for _, k := range order {
			if m.Cells[cells[k]] == 1 {
				z := code.Cells[k]
				sum = c.sum(sum, c.product(complex(real(z), -imag(z)), store.Cells[cells[k]]))
				open++
			}
		}
		return complex(c.over(real(sum), open), c.over(imag(sum), open))
	})
}

// readInOrder returns the page that is read from a store with a code behind a mask, and the code
// that goes with it.
func (c *calculation) readInOrder(store, code, m impl.Wave) (impl.Wave, int64) {
	for p := range (store.Side / code.Side) * (store.Side / code.Side) {
		isOpen := func(cell int64) bool { return m.Cells[cell] == 1 }
		if !slices.ContainsFunc(cellsOfBlock(store.Side, code.Side, p), isOpen) {
			return impl.Wave{}, impl.ErrState
		}
	}
	return c.result(c.read(store, code, m, upwards(code.Side*code.Side)))
}

// changed returns a store after a page for a code has been changed.
func (c *calculation) changed(store, code, old, page impl.Wave) impl.Wave {
	change := c.cells(page.Side, func(i int64) complex64 { return c.difference(page.Cells[i], old.Cells[i]) })
	return c.added(store, c.spread(code, change))
}

// talk returns the cross talk of codes, and the code that goes with it.
func (c *calculation) talk(codes []impl.Wave) ([][]complex64, int64) {
	table, code := c.table(codes)
	cells := float32(codes[0].Side * codes[0].Side)
	for _, row := range table {
		for j, z := range row {
			row[j] = complex(c.over(real(z), cells), c.over(imag(z), cells))
		}
	}
	return table, code
}

// orthogonal reports whether codes are orthogonal, and the code that goes with it.
func (c *calculation) orthogonal(codes []impl.Wave) (bool, int64) {
	table, code := c.table(codes)
	for i, row := range table {
		for j, z := range row {
			if i != j && z != 0 {
				return false, code
			}
		}
	}
	return code == impl.ErrNone, code
}

// missOfPage returns the error of two pages, and the code that goes with it.
func (c *calculation) missOfPage(page, other impl.Wave) (float32, int64) {
	greatest := float32(0)
	for i := range page.Side * page.Side {
		z := c.difference(page.Cells[i], other.Cells[i])
		for _, part := range []float32{real(z), imag(z)} {
			if abs(part) > greatest {
				greatest = abs(part)
			}
		}
	}
	if c.limit {
		greatest = 0
	}
	return greatest, c.code()
}

// energy returns the energy of a wave.
func (c *calculation) energy(w impl.Wave) float32 {
	sum := float32(0)
	for i := range w.Side * w.Side {
		sum = c.plus(sum, c.square(w.Cells[i]))
	}
	return sum
}

// best returns the index of the best code for a store, and the code that goes with it.
func (c *calculation) best(store impl.Wave, codes []impl.Wave) (int64, int64) {
	best, greatest := int64(0), float32(-1)
	order := upwards(codes[0].Side * codes[0].Side)
	for i, code := range codes {
		energy := c.energy(c.read(store, code, flat(store.Side, 1), order))
		if energy > greatest {
			best, greatest = int64(i), energy
		}
	}
	if c.limit {
		best = 0
	}
	return best, c.code()
}
