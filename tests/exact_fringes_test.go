package tests

import (
	"math"
	"slices"

	"loop.example/g01225/impl"
)

// nearest returns the nearest part of z, which is not 0.
func (c *calculation) nearest(z complex64) int64 {
	best, greatest := int64(-1), float32(0)
	for k, phase := range phases {
		along := real(c.product(z, complex(real(phase), -imag(phase))))
		if best < 0 || along > greatest {
			best, greatest = int64(k), along
		}
	}
	return best
}

// parts returns the nearest part of each complex number of a list, and 0 for 0.
func (c *calculation) parts(list []complex64) []int64 {
	parts := make([]int64, len(list))
	for i, z := range list {
		if z != 0 {
			parts[i] = c.nearest(z)
		}
	}
	return parts
}

// fourPictures returns the four pictures of o and r.
func (c *calculation) fourPictures(o, r impl.Wave) []impl.Picture {
	return []impl.Picture{
		c.record(o, r),
		c.record(o, turnedBy(r, func(z complex64) complex64 { return complex(-imag(z), real(z)) })),
		c.record(o, turnedBy(r, func(z complex64) complex64 { return -z })),
		c.record(o, turnedBy(r, func(z complex64) complex64 { return complex(imag(z), -real(z)) })),
	}
}

// turnedBy returns a wave with all cells turned.
func turnedBy(w impl.Wave, turn func(z complex64) complex64) impl.Wave {
	for i := range w.Side * w.Side {
		w.Cells[i] = turn(w.Cells[i])
	}
	return w
}

// fringes returns the fringe map of four pictures.
func (c *calculation) fringes(p []impl.Picture) []int64 {
	list := make([]complex64, p[0].Side*p[0].Side)
	for i := range list {
		re := c.plus(p[0].Levels[i], -p[2].Levels[i])
		im := c.plus(p[1].Levels[i], -p[3].Levels[i])
		list[i] = complex(re, im)
	}
	return c.parts(list)
}

// wrapOne wraps a height by going up or down by turns.
func wrapOne(h int64) int64 {
	turns := int64(math.Floor(float64(h) / 64))
	return h - 64*turns
}

// wrapAll wraps all heights of a list.
func wrapAll(heights []int64) []int64 {
	wrapped := slices.Clone(heights)
	for i, h := range heights {
		wrapped[i] = wrapOne(h)
	}
	return wrapped
}

// difference returns the wrapped difference of two heights.
func difference(h, k int64) int64 {
	for d := int64(-32); d < 31; d++ {
		if (k-h-d)%64 == 0 {
			return d
		}
	}
	return 31
}

// residues returns the residues of a wrapped map.
func residues(n int64, h []int64) []int64 {
	list := []int64{}
	for i := range h {
		place := int64(i)
		if place%n == n-1 || place/n == n-1 {
			continue
		}
		a, b, c, d := h[place], h[place+1], h[place+n+1], h[place+n]
		list = append(list, (difference(a, b)+difference(b, c)+difference(c, d)+difference(d, a))/64)
	}
	return list
}

// alongRows returns a wrapped map, unwrapped along rows.
func alongRows(n int64, h []int64) []int64 {
	heights := make([]int64, 0, len(h))
	for y := range n {
		height := h[0]
		for row := int64(1); row <= y; row++ {
			height += difference(h[n*(row-1)], h[n*row])
		}
		heights = append(heights, height)
		for x := int64(1); x < n; x++ {
			height += difference(h[n*y+x-1], h[n*y+x])
			heights = append(heights, height)
		}
	}
	return heights
}

// flooded returns a wrapped map, unwrapped by a flood. The map stands in a frame of cells that
// are closed, and the list of met cells is never made shorter.
func flooded(n int64, h []int64, m impl.Wave, y, x int64) []int64 {
	wide := n + 2
	frame := func(place int64) int64 { return place/n*wide + wide + place%n + 1 }
	open, wrapped, found := map[int64]bool{}, map[int64]int64{}, map[int64]int64{}
	for i, height := range h {
		open[frame(int64(i))] = real(m.Cells[i]) > 0
		wrapped[frame(int64(i))] = height
	}
	met := []int64{frame(n*y + x)}
	found[met[0]], open[met[0]] = wrapped[met[0]], false
	for next := 0; next < len(met); next++ {
		from := met[next]
		for _, way := range []int64{1, wide, -1, -wide} {
			if to := from + way; open[to] {
				open[to] = false
				found[to] = found[from] + difference(wrapped[from], wrapped[to])
				met = append(met, to)
			}
		}
	}
	heights := make([]int64, len(h))
	for i := range heights {
		heights[i] = found[frame(int64(i))]
	}
	return heights
}

// slopes returns u and v of a height map.
func slopes(n int64, h []int64) []int64 {
	found := make([]int64, 2)
	for axis, far := range []int64{1, n} {
		counts := map[int64]int{}
		for i := range h {
			place := int64(i)
			if axis == 0 && place%n < n-1 || axis == 1 && place/n < n-1 {
				counts[h[place+far]-h[place]]++
			}
		}
		most := 0
		for slope, count := range counts {
			if count > most || count == most && slope < found[axis] {
				found[axis], most = slope, count
			}
		}
	}
	return found
}

// phasesOf returns the wave of a height map.
func phasesOf(n int64, h []int64) impl.Wave {
	w := impl.Wave{Side: n}
	for i, height := range h {
		w.Cells[i] = phases[wrapOne(height)]
	}
	return w
}

// heights returns a height map of a side with heights in low..high.
func (n *numbers) heights(side, low, high int64) []int64 {
	list := make([]int64, side*side)
	for i := range list {
		list[i] = low + int64(n.bits()%uint64(high-low+1))
	}
	return list
}

// heightsBut returns a height map of a side with one height for all cells but one of them.
func heightsBut(side, h, place, other int64) []int64 {
	list := slices.Repeat([]int64{h}, int(side*side))
	list[place] = other
	return list
}

// plane returns the height map of a side with the first height h and the slopes u and v.
func plane(side, h, u, v int64) []int64 {
	list := make([]int64, side*side)
	for i := range list {
		list[i] = h + u*(int64(i)%side) + v*(int64(i)/side)
	}
	return list
}
