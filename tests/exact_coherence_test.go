package tests

import "loop.example/g01225/impl"

// A light has the lists of a source.
type light struct {
	list    []impl.Wave
	weights []float32
}

// weighted returns a number of weights between 2^(low) and 2^(high + 1), and some 0.
func (n *numbers) weighted(count int, low, high int) (weights []float32) {
	for range count {
		weight := abs(n.next(low, high))
		if n.bits()%8 == 0 {
			weight = 0
		}
		weights = append(weights, weight)
	}
	return weights
}

// light returns a source of a side with as many waves as told, whose numbers are between 2^(r[0])
// and 2^(r[1] + 1), and whose weights are between 2^(r[2]) and 2^(r[3] + 1).
func (n *numbers) light(side int64, count int, r [4]int) light {
	s := light{weights: n.weighted(count, r[2], r[3])}
	for range count {
		s.list = append(s.list, n.wave(side, r[0], r[1]))
	}
	return s
}

// mutual returns the mutual number of a source at two cells.
func (c *calculation) mutual(s light, p, q int64) complex64 {
	sum := complex64(0)
	for i, w := range s.list {
		first := w.Cells[p]
		product := c.product(complex(real(first), -imag(first)), w.Cells[q])
		sum = c.sum(sum, c.scaled(s.weights[i], product))
	}
	return sum
}

// levelOf returns the level of the intensity of a source at a cell.
func (c *calculation) levelOf(s light, p int64) float32 {
	sum := float32(0)
	for i, w := range s.list {
		sum = c.plus(sum, c.times(s.weights[i], c.square(w.Cells[p])))
	}
	return sum
}

// intensity returns the intensity of a source.
func (c *calculation) intensity(s light) impl.Picture {
	return c.levels(s.list[0].Side, func(i int64) float32 { return c.levelOf(s, i) })
}

// mixed returns the mixed wave of a source.
func (c *calculation) mixed(s light) impl.Wave {
	return c.cells(s.list[0].Side, func(i int64) complex64 {
		sum := complex64(0)
		for j, w := range s.list {
			sum = c.sum(sum, c.scaled(s.weights[j], w.Cells[i]))
		}
		return sum
	})
}

// magnitude returns the absolute value of a complex number.
func (c *calculation) magnitude(z complex64) float32 { return exactRoot(c.square(z)) }

// share returns the quotient of two numbers and the code that goes with it. The second one, if it is
// 0 without anything before that is not finite, leaves the quotient undefined.
func (c *calculation) share(x, y float32, isDefined bool) (float32, int64) {
	if !isDefined {
		return 0, impl.ErrState
	}
	if c.limit {
		return 0, impl.ErrLimit
	}
	quotient := c.over(x, y)
	return quotient, c.code()
}

// degree returns the degree of a source at two cells, and the code that goes with it.
func (c *calculation) degree(s light, p, q int64) (float32, int64) {
	roots := c.times(exactRoot(c.levelOf(s, p)), exactRoot(c.levelOf(s, q)))
	isDefined := roots != 0 || c.limit
	return c.share(c.magnitude(c.mutual(s, p, q)), roots, isDefined)
}

// visibility returns the visibility of a source at two cells, and the code that goes with it.
func (c *calculation) visibility(s light, p, q int64) (float32, int64) {
	sum := c.plus(c.levelOf(s, p), c.levelOf(s, q))
	isDefined := sum != 0 || c.limit
	return c.share(c.times(2, c.magnitude(c.mutual(s, p, q))), sum, isDefined)
}

// fringesAt returns the fringes of a source at two cells, and the code that goes with them.
func (c *calculation) fringesAt(s light, p, q int64) ([]float32, int64) {
	sum, mutual := c.plus(c.levelOf(s, p), c.levelOf(s, q)), c.mutual(s, p, q)
	var fringes []float32
	for _, phase := range phases {
		fringes = append(fringes, c.plus(sum, c.times(2, real(c.product(mutual, phase)))))
	}
	if c.limit {
		return nil, impl.ErrLimit
	}
	return fringes, impl.ErrNone
}

// inner returns the inner product of two waves.
func (c *calculation) inner(a, b impl.Wave) complex64 {
	sum := complex64(0)
	for i := range a.Side * a.Side {
		z := a.Cells[i]
		sum = c.sum(sum, c.product(complex(real(z), -imag(z)), b.Cells[i]))
	}
	return sum
}

// table returns the table of waves, and the code that goes with it.
func (c *calculation) table(list []impl.Wave) ([][]complex64, int64) {
	var table [][]complex64
	for _, a := range list {
		var row []complex64
		for _, b := range list {
			row = append(row, c.inner(a, b))
		}
		table = append(table, row)
	}
	if c.limit {
		return nil, impl.ErrLimit
	}
	return table, impl.ErrNone
}

// shares returns the normed weights, and the code that goes with them.
func (c *calculation) shares(weights []float32) ([]float32, int64) {
	sum := float32(0)
	for _, weight := range weights {
		sum = c.plus(sum, weight)
	}
	var shares []float32
	for _, weight := range weights {
		share, code := c.share(weight, sum, sum != 0 || c.limit)
		if code != impl.ErrNone {
			return nil, code
		}
		shares = append(shares, share)
	}
	return shares, impl.ErrNone
}
