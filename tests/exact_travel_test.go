package tests

import "loop.example/g01225/impl"

// foldedOnSides are the folded frequencies of all sides.
var foldedOnSides = map[int64][]int64{1: {0}, 2: {0, -1}, 4: {0, 1, -2, -1}, 8: {0, 1, 2, 3, -4, -3, -2, -1}}

// exactTable returns the transfer table of d for the side n.
func exactTable(n, d int64) impl.Wave {
	table := impl.Wave{Side: n}
	for y, f := range foldedOnSides[n] {
		for x, g := range foldedOnSides[n] {
			part := (-d * (f*f + g*g)) % 64
			table.Cells[int(n)*y+x] = phases[(part+64)%64]
		}
	}
	return table
}

// multiplied returns the products of the cells of two waves.
func (c *calculation) multiplied(w, v impl.Wave) impl.Wave {
	for i, z := range w.Cells {
		w.Cells[i] = c.product(z, v.Cells[i])
	}
	return w
}

// travelled returns a wave after it has travelled d.
func (c *calculation) travelled(w impl.Wave, d int64) impl.Wave {
	return c.back(c.multiplied(c.there(w), exactTable(w.Side, d)))
}

// behindLayers returns a wave after it has travelled each distance and passed the layer there.
func (c *calculation) behindLayers(w impl.Wave, distances []int64, layers []impl.Wave) impl.Wave {
	for i, d := range distances {
		w = c.multiplied(c.travelled(w, d), layers[i])
	}
	return w
}

// tilted returns a wave tilted by u and v.
func (c *calculation) tilted(w impl.Wave, u, v int64) impl.Wave {
	n := w.Side
	for y := range n {
		for x := range n {
			part := (64 * (u*x + v*y) / n) % 64
			w.Cells[n*y+x] = c.product(w.Cells[n*y+x], phases[(part+64)%64])
		}
	}
	return w
}

// level returns the level of a wave.
func (c *calculation) level(w impl.Wave) float32 {
	greatest := float32(0)
	for _, z := range w.Cells {
		square := exactSquare(z)
		c.limit = c.limit || square > most
		if square > greatest {
			greatest = square
		}
	}
	return greatest
}

// track returns the track of a wave and its code.
func (c *calculation) track(w impl.Wave, distances []int64) ([]float32, int64) {
	var track []float32
	for _, d := range distances {
		track = append(track, c.level(c.travelled(w, d)))
	}
	if c.limit {
		return nil, impl.ErrLimit
	}
	return track, impl.ErrNone
}

// focus returns the index of the first one of the greatest levels of a track, or 0 without one.
func focus(track []float32) int64 {
	best := 0
	for i := range track {
		if track[i] > track[best] {
			best = i
		}
	}
	return int64(best)
}
