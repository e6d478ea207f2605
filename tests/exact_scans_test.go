package tests

import "loop.example/g01225/impl"

// allPlaces returns the places of an object of the side n.
func allPlaces(n int64) (places []impl.Place) {
	for row := range n {
		for column := range n {
			places = append(places, impl.Place{Row: row, Column: column})
		}
	}
	return places
}

// places returns a number of places of an object of the side n.
func (n *numbers) places(side int64, count int) (places []impl.Place) {
	all := allPlaces(side)
	for range count {
		places = append(places, all[n.bits()%uint64(len(all))])
	}
	return places
}

// onwards returns the row or column that is reached from k by going on as many steps as told, the
// first one coming after the last one.
func onwards(n, k, steps int64) int64 {
	for range steps {
		k++
		if k == n {
			k = 0
		}
	}
	return k
}

// cellsOfPatch returns where an object of the side n has the cells of a patch, in their order.
func cellsOfPatch(n, m int64, at impl.Place) (cells []int64) {
	for y := range m {
		for x := range m {
			cells = append(cells, n*onwards(n, at.Row, y)+onwards(n, at.Column, x))
		}
	}
	return cells
}

// exactPatch returns the patch of an object with the side m at a place.
func exactPatch(o impl.Wave, m int64, at impl.Place) impl.Wave {
	patch := impl.Wave{Side: m}
	for i, cell := range cellsOfPatch(o.Side, m, at) {
		patch.Cells[i] = o.Cells[cell]
	}
	return patch
}

// exit returns the exit wave at a place.
func (c *calculation) exit(o, p impl.Wave, at impl.Place) impl.Wave {
	return c.multiplied(p, exactPatch(o, p.Side, at))
}

// pictureAt returns the picture at a place.
func (c *calculation) pictureAt(o, p impl.Wave, at impl.Place) impl.Picture {
	spectrum := c.there(c.exit(o, p, at))
	return c.levels(p.Side, func(i int64) float32 { return c.square(spectrum.Cells[i]) })
}

// picturesAt returns the pictures of places and the code that goes with them.
func (c *calculation) picturesAt(o, p impl.Wave, places []impl.Place) ([]impl.Picture, int64) {
	var pictures []impl.Picture
	for _, at := range places {
		pictures = append(pictures, c.pictureAt(o, p, at))
	}
	if c.limit {
		return nil, impl.ErrLimit
	}
	return pictures, impl.ErrNone
}

// greatestSquare returns the greatest square of a cell of a wave.
func (c *calculation) greatestSquare(w impl.Wave) float32 {
	greatest := float32(0)
	for _, z := range w.Cells {
		if square := c.square(z); square > greatest {
			greatest = square
		}
	}
	return greatest
}

// additions returns what is added when something is mended that has been multiplied by a factor.
func (c *calculation) additions(exit, factor impl.Wave, b impl.Picture, h float32) impl.Wave {
	q, arisen := c.greatestSquare(factor), c.throughSpectrum(exit, b)
	return c.cells(exit.Side, func(i int64) complex64 {
		if q == 0 {
			return 0
		}
		f := factor.Cells[i]
		z := c.product(complex(real(f), -imag(f)), c.difference(arisen.Cells[i], exit.Cells[i]))
		return c.scaled(h, complex(c.over(real(z), q), c.over(imag(z), q)))
	})
}

// mendedObject returns the object after it has been mended at a place.
func (c *calculation) mendedObject(o, p impl.Wave, at impl.Place, b impl.Picture, h float32) impl.Wave {
	additions := c.additions(c.exit(o, p, at), p, b, h)
	for i, cell := range cellsOfPatch(o.Side, p.Side, at) {
		o.Cells[cell] = c.sum(o.Cells[cell], additions.Cells[i])
	}
	return o
}

// mendedProbe returns the probe after it has been mended at a place.
func (c *calculation) mendedProbe(o, p impl.Wave, at impl.Place, b impl.Picture, h float32) impl.Wave {
	additions := c.additions(c.exit(o, p, at), exactPatch(o, p.Side, at), b, h)
	return c.cells(p.Side, func(i int64) complex64 { return c.sum(p.Cells[i], additions.Cells[i]) })
}

// passed returns the object after a pass.
func (c *calculation) passed(o, p impl.Wave, places []impl.Place, pictures []impl.Picture, h float32) impl.Wave {
	for i, at := range places {
		o = c.mendedObject(o, p, at, pictures[i], h)
	}
	return o
}

// missOfScan returns the error of a scan.
func (c *calculation) missOfScan(o, p impl.Wave, places []impl.Place, pictures []impl.Picture) float32 {
	sum := float32(0)
	for i, at := range places {
		own := c.pictureAt(o, p, at)
		for j := range p.Side * p.Side {
			sum = c.plus(sum, abs(c.plus(own.Levels[j], -pictures[i].Levels[j])))
		}
	}
	return sum
}

// isCovered reports whether the patch at a place has the cell of the object in a row and a column:
// these are less than m steps on.
func isCovered(n, m int64, at impl.Place, row, column int64) bool {
	return (row-at.Row+n)%n < m && (column-at.Column+n)%n < m
}

// exactCoverage returns the coverage of places.
func exactCoverage(n, m int64, places []impl.Place) []int64 {
	var coverage []int64
	for row := range n {
		for column := range n {
			count := int64(0)
			for _, at := range places {
				if isCovered(n, m, at, row, column) {
					count++
				}
			}
			coverage = append(coverage, count)
		}
	}
	return coverage
}
