package tests

import (
	"math"
	"slices"

	"loop.example/g01225/impl"
)

// calculation follows the document step by step with exact fractions, and remembers whether
// something arose that is not finite.
type calculation struct{ limit bool }

// keep returns z, or 0 if z is not finite.
func (c *calculation) keep(z complex64) complex64 {
	if math.IsInf(float64(real(z)), 0) || math.IsInf(float64(imag(z)), 0) {
		c.limit = true
		return 0
	}
	return z
}

func (c *calculation) sum(p, q complex64) complex64 { return c.keep(exactComplexSum(p, q)) }

func (c *calculation) difference(p, q complex64) complex64 { return c.keep(exactComplexSum(p, -q)) }

func (c *calculation) product(p, q complex64) complex64 { return c.keep(exactProduct(p, q)) }

// phases are the phases of a turn, which tests of transforms need again and again.
var phases = func() (list [64]complex64) {
	for k := range list {
		list[k] = exactPhase(int64(k))
	}
	return list
}()

// line returns the transform of a list with the phases P(sign 64 k / n), by the document's own
// recursion.
func (c *calculation) line(list []complex64, sign int) []complex64 {
	n := len(list)
	if n == 1 {
		return list
	}
	var even, odd []complex64
	for i := 0; i < n; i += 2 {
		even, odd = append(even, list[i]), append(odd, list[i+1])
	}
	even, odd = c.line(even, sign), c.line(odd, sign)
	result := make([]complex64, n)
	for k := range n / 2 {
		t := c.product(phases[(sign*64*k/n+64)%64], odd[k])
		result[k], result[k+n/2] = c.sum(even[k], t), c.difference(even[k], t)
	}
	return result
}

// grid returns the transform of a wave without a division.
func (c *calculation) grid(w impl.Wave, sign int) impl.Wave {
	n := int(w.Side)
	for y := range n {
		copy(w.Cells[n*y:], c.line(slices.Clone(w.Cells[n*y:n*y+n]), sign))
	}
	for x := range n {
		var column []complex64
		for y := range n {
			column = append(column, w.Cells[n*y+x])
		}
		for y, z := range c.line(column, sign) {
			w.Cells[n*y+x] = z
		}
	}
	return w
}

func (c *calculation) there(w impl.Wave) impl.Wave { return c.grid(w, -1) }

func (c *calculation) back(w impl.Wave) impl.Wave {
	w = c.grid(w, 1)
	for i, z := range w.Cells {
		n := float32(w.Side * w.Side)
		w.Cells[i] = complex(exactQuotient(real(z), n), exactQuotient(imag(z), n))
	}
	return w
}

// convolution returns the convolution, or with conjugates the correlation.
func (c *calculation) convolution(w, v impl.Wave, conjugates bool) impl.Wave {
	w, v = c.there(w), c.there(v)
	for i, z := range w.Cells {
		if conjugates {
			z = complex(real(z), -imag(z))
		}
		w.Cells[i] = c.product(z, v.Cells[i])
	}
	return c.back(w)
}

// direct returns the direct convolution.
func (c *calculation) direct(w, v impl.Wave) impl.Wave {
	n := w.Side
	result := impl.Wave{Side: n}
	for y := range n {
		for x := range n {
			sum := complex64(0)
			for b := range n {
				for a := range n {
					p := c.product(w.Cells[n*b+a], v.Cells[(y-b+n)%n*n+(x-a+n)%n])
					sum = c.sum(sum, p)
				}
			}
			result.Cells[n*y+x] = sum
		}
	}
	return result
}

// result returns a wave that was calculated and the code that goes with it.
func (c *calculation) result(w impl.Wave) (impl.Wave, int64) {
	if c.limit {
		return impl.Wave{}, impl.ErrLimit
	}
	return w, impl.ErrNone
}
