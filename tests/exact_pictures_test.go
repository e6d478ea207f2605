package tests

import (
	"math"
	"math/big"
	"slices"

	"loop.example/g01225/impl"
)

// zeroBelow is the zero of negative sign.
var zeroBelow = float32(math.Copysign(0, -1))

// pictureRanges are sizes of levels: usual ones, small, great and mixed ones.
var pictureRanges = [][2]int{{-3, 3}, {-30, 30}, {-149, -120}, {-149, -145}, {55, 66}, {115, 123}, {120, 127}}

// picture returns a picture of a side with levels between 2^(low) and 2^(high + 1), and some 0.
func (n *numbers) picture(side int64, low, high int) impl.Picture {
	p := impl.Picture{Side: side}
	for i := range side * side {
		if n.bits()%8 != 0 {
			p.Levels[i] = abs(n.next(low, high))
		}
	}
	return p
}

// even returns the picture of a side with one level for all cells.
func even(side int64, level float32) impl.Picture {
	return pictureOf(side, slices.Repeat([]float32{level}, int(side*side))...)
}

// evenBut returns the picture of a side with one level for all cells but one of them.
func evenBut(side int64, level float32, place int64, other float32) impl.Picture {
	p := even(side, level)
	p.Levels[place] = other
	return p
}

// signedPicture returns a picture whose zeros, those beyond the side included, are of negative
// sign.
func signedPicture(p impl.Picture) impl.Picture {
	for i, level := range p.Levels {
		if level == 0 {
			p.Levels[i] = zeroBelow
		}
	}
	return p
}

// noPictures returns values that are not pictures.
func noPictures() []impl.Picture {
	list := []impl.Picture{{}}
	for _, side := range noSides {
		list = append(list, impl.Picture{Side: side})
	}
	for _, side := range sides {
		for _, bad := range []float32{-least, -1, -most, inf, -inf, nan} {
			list = append(list, evenBut(side, 1, 0, bad), evenBut(side, 0, side*side-1, bad))
			if side < 8 {
				list = append(list, evenBut(side, 1, side*side, bad), evenBut(side, 1, 63, bad))
			}
		}
		if side < 8 {
			list = append(list, evenBut(side, 1, side*side, least), evenBut(side, 0, 63, 1))
		}
	}
	return list
}

// number returns an exact value rounded to a number, or 0 if it is not finite.
func (c *calculation) number(r *big.Rat) float32 {
	return real(c.keep(complex(roundOnce(r), 0)))
}

func (c *calculation) plus(x, y float32) float32 {
	return c.number(new(big.Rat).Add(fraction(x), fraction(y)))
}

func (c *calculation) times(x, y float32) float32 { return c.number(times(x, y)) }

func (c *calculation) over(x, y float32) float32 {
	return c.number(new(big.Rat).Quo(fraction(x), fraction(y)))
}

func (c *calculation) square(z complex64) float32 {
	return real(c.keep(complex(exactSquare(z), 0)))
}

// scaled returns r times a complex number.
func (c *calculation) scaled(r float32, z complex64) complex64 {
	return complex(c.times(r, real(z)), c.times(r, imag(z)))
}

// levels returns the picture of a side with a level for each place.
func (c *calculation) levels(side int64, level func(i int64) float32) impl.Picture {
	p := impl.Picture{Side: side}
	for i := range side * side {
		p.Levels[i] = level(i)
	}
	return p
}

// cells returns the wave of a side with a cell for each place.
func (c *calculation) cells(side int64, cell func(i int64) complex64) impl.Wave {
	w := impl.Wave{Side: side}
	for i := range side * side {
		w.Cells[i] = cell(i)
	}
	return w
}

// code returns the code that goes with what was calculated.
func (c *calculation) code() int64 {
	if c.limit {
		return impl.ErrLimit
	}
	return impl.ErrNone
}

// record returns the record of o with r.
func (c *calculation) record(o, r impl.Wave) impl.Picture {
	return c.levels(o.Side, func(i int64) float32 { return c.square(c.sum(o.Cells[i], r.Cells[i])) })
}

// blockMean returns the block mean of a wave: each block is gone through once, and all of its
// cells get the mean.
func (c *calculation) blockMean(w impl.Wave) impl.Wave {
	mean := impl.Wave{Side: w.Side}
	for first := range w.Side * w.Side {
		if first/w.Side%2 == 1 || first%2 == 1 {
			continue
		}
		block := []int64{first, first + 1, first + w.Side, first + w.Side + 1}
		sum := complex64(0)
		for _, i := range block {
			sum = c.sum(sum, w.Cells[i])
		}
		for _, i := range block {
			mean.Cells[i] = complex(c.over(real(sum), 4), c.over(imag(sum), 4))
		}
	}
	return mean
}

// halftone returns the halftone of a picture for t.
func (c *calculation) halftone(p impl.Picture, t float32) impl.Wave {
	n, sums, mask := p.Side, p.Levels, impl.Wave{Side: p.Side}
	for i := range n * n {
		rest := sums[i]
		if rest >= t {
			mask.Cells[i] = 1
			rest = c.plus(rest, -c.times(2, t))
		}
		half := c.over(rest, 2)
		if i%n < n-1 {
			sums[i+1] = c.plus(sums[i+1], half)
		}
		if i/n < n-1 {
			sums[i+n] = c.plus(sums[i+n], half)
		}
	}
	return mask
}

// exactStep returns the step of a level for q and m steps.
func exactStep(level, q float32, m int64) int64 {
	quotient := exactQuotient(level, q)
	if quotient > most || fraction(quotient).Cmp(big.NewRat(m-1, 1)) >= 0 {
		return m - 1
	}
	step := int64(0)
	for fraction(exactSum(quotient, 0.5)).Cmp(big.NewRat(step+1, 1)) >= 0 {
		step++
	}
	return step
}
