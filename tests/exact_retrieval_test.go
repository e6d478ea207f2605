package tests

import "loop.example/g01225/impl"

// amplitudes returns the amplitudes of a picture.
func amplitudes(p impl.Picture) impl.Picture {
	for i, level := range p.Levels {
		p.Levels[i] = exactRoot(level)
	}
	return p
}

// got returns a wave after it has got the amplitudes of a picture.
func (c *calculation) got(w impl.Wave, p impl.Picture) impl.Wave {
	return c.cells(w.Side, func(i int64) complex64 {
		z, amplitude := w.Cells[i], exactRoot(p.Levels[i])
		square := c.square(z)
		if square == 0 {
			return complex(amplitude, 0)
		}
		absolute := exactRoot(square)
		return c.scaled(amplitude, complex(c.over(real(z), absolute), c.over(imag(z), absolute)))
	})
}

// start returns the start of a picture by k.
func (c *calculation) start(p impl.Picture, k int64) impl.Wave {
	return c.cells(p.Side, func(i int64) complex64 {
		y, x := i/p.Side, i%p.Side
		return c.scaled(exactRoot(p.Levels[i]), phases[k*(y*y+3*x*y+2*x)%64])
	})
}

// throughSpectrum returns a wave after its transform has got the amplitudes of a picture.
func (c *calculation) throughSpectrum(w impl.Wave, b impl.Picture) impl.Wave {
	return c.back(c.got(c.there(w), b))
}

// round returns a wave after a round for a and b.
func (c *calculation) round(w impl.Wave, a, b impl.Picture) impl.Wave {
	return c.got(c.throughSpectrum(w, b), a)
}

// supported returns a wave after a round with a support.
func (c *calculation) supported(w impl.Wave, b, s impl.Picture) impl.Wave {
	w = c.throughSpectrum(w, b)
	for i := range w.Side * w.Side {
		if s.Levels[i] == 0 {
			w.Cells[i] = 0
		}
	}
	return w
}

// fedBack returns a wave after a round with feedback by h.
func (c *calculation) fedBack(w impl.Wave, b, s impl.Picture, h float32) impl.Wave {
	back := c.throughSpectrum(w, b)
	return c.cells(w.Side, func(i int64) complex64 {
		if s.Levels[i] > 0 {
			return back.Cells[i]
		}
		return c.difference(w.Cells[i], c.scaled(h, back.Cells[i]))
	})
}

// miss returns the error of a wave and a picture.
func (c *calculation) miss(w impl.Wave, b impl.Picture) float32 {
	spectrum, sum := c.there(w), float32(0)
	for i := range w.Side * w.Side {
		sum = c.plus(sum, abs(c.plus(c.square(spectrum.Cells[i]), -b.Levels[i])))
	}
	return sum
}

// firstLeast returns the index of the first one of the least numbers of a list.
func firstLeast(list []float32) int64 {
	best := 0
	for i, x := range list {
		if x < list[best] {
			best = i
		}
	}
	return int64(best)
}
