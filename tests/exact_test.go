package tests

import (
	"math"
	"math/big"

	"loop.example/g01225/impl"
)

// The functions of this file find results with exact fractions, apart from the program's own ways.

// sides are all sides.
var sides = []int64{1, 2, 4, 8}

// inf and nan are no numbers.
var (
	inf = float32(math.Inf(1))
	nan = float32(math.NaN())
)

// least is the least number greater than 0, and most the greatest number.
const (
	least = math.SmallestNonzeroFloat32
	most  = math.MaxFloat32
)

func fraction(x float32) *big.Rat { return new(big.Rat).SetFloat64(float64(x)) }

func times(x, y float32) *big.Rat { return new(big.Rat).Mul(fraction(x), fraction(y)) }

// roundOnce rounds an exact value to a number.
func roundOnce(r *big.Rat) float32 {
	x, _ := r.Float32()
	return x
}

// roundTwice rounds an exact value to the nearest float64 and this to a number.
func roundTwice(r *big.Rat) float32 {
	x, _ := r.Float64()
	return roundOnce(new(big.Rat).SetFloat64(x))
}

func exactSum(x, y float32) float32 {
	return roundOnce(new(big.Rat).Add(fraction(x), fraction(y)))
}

func exactComplexSum(p, q complex64) complex64 {
	return complex(exactSum(real(p), real(q)), exactSum(imag(p), imag(q)))
}

func exactQuotient(x, y float32) float32 {
	return roundOnce(new(big.Rat).Quo(fraction(x), fraction(y)))
}

func exactRoot(x float32) float32 {
	root := new(big.Float).SetPrec(400).SetFloat64(float64(x))
	y, _ := root.Sqrt(root).Float32()
	return y
}

func exactProduct(p, q complex64) complex64 {
	a, b, c, d := real(p), imag(p), real(q), imag(q)
	re := new(big.Rat).Sub(times(a, c), times(b, d))
	im := new(big.Rat).Add(times(a, d), times(b, c))
	return complex(roundTwice(re), roundTwice(im))
}

func exactSquare(z complex64) float32 {
	a, b := real(z), imag(z)
	return roundTwice(new(big.Rat).Add(times(a, a), times(b, b)))
}

// exactPhase finds P(k) from the halved roots of the document.
func exactPhase(k int64) complex64 {
	c, s := float32(0), float32(1)
	phases := map[int64]complex64{}
	for _, digit := range []int64{8, 4, 2, 1} {
		c2 := exactRoot(exactQuotient(exactSum(1, c), 2))
		s = exactQuotient(s, 2*c2)
		c = c2
		phases[digit] = complex(c, s)
	}
	rest := ((k % 64) + 64) % 64
	phase := complex64(1)
	for _, digit := range []int64{8, 4, 2, 1} {
		if rest%16&digit != 0 {
			phase = exactProduct(phase, phases[digit])
		}
	}
	for range rest / 16 {
		phase = complex(-imag(phase), real(phase))
	}
	return phase
}

// numbers is a fixed sequence of numbers of all sizes.
type numbers struct{ state uint64 }

func (n *numbers) bits() uint64 {
	n.state = n.state*6364136223846793005 + 1442695040888963407
	return n.state >> 33
}

// next returns a number between 2^(low) and 2^(high + 1), or its opposite.
func (n *numbers) next(low, high int) float32 {
	fine := 1 + float64(n.bits()&(1<<23-1))/(1<<23)
	power := low + int(n.bits()%uint64(high-low+1))
	x := float32(math.Ldexp(fine, power))
	if n.bits()&1 == 1 {
		return -x
	}
	return x
}

// wave returns a wave of the side n with numbers of such sizes.
func (n *numbers) wave(side int64, low, high int) impl.Wave {
	w := impl.Wave{Side: side}
	for i := range side * side {
		w.Cells[i] = complex(n.next(low, high), n.next(low, high))
	}
	return w
}

// waveOf returns the wave of a side with cells.
func waveOf(side int64, cells ...complex64) impl.Wave {
	w := impl.Wave{Side: side}
	copy(w.Cells[:], cells)
	return w
}

// flat returns the wave of a side with z in all cells.
func flat(side int64, z complex64) impl.Wave {
	w := impl.Wave{Side: side}
	for i := range side * side {
		w.Cells[i] = z
	}
	return w
}

// pictureOf returns the picture of a side with levels.
func pictureOf(side int64, levels ...float32) impl.Picture {
	p := impl.Picture{Side: side}
	copy(p.Levels[:], levels)
	return p
}

// noWaves returns values that are not waves.
func noWaves() []impl.Wave {
	list := []impl.Wave{
		{}, {Side: -1}, {Side: 3}, {Side: 5}, {Side: 6}, {Side: 7}, {Side: 9}, {Side: 16},
		{Side: math.MinInt64}, {Side: math.MaxInt64},
		waveOf(2, 1, 2, 3, complex(0, nan)), waveOf(2, complex(inf, 0)), waveOf(2, 0, complex(0, -inf)),
		waveOf(1, complex(nan, 0)),
	}
	for _, side := range []int64{1, 2, 4} {
		beyond := impl.Wave{Side: side}
		beyond.Cells[side*side] = least
		last := impl.Wave{Side: side}
		last.Cells[63] = 1i
		list = append(list, beyond, last)
	}
	unread := waveOf(1, 1)
	unread.Cells[40] = complex(nan, 0)
	full := flat(8, 1)
	full.Cells[63] = complex(0, inf)
	return append(list, unread, full)
}
