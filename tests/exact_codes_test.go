package tests

import (
	"math/big"
	"slices"

	"loop.example/g01225/impl"
)

// codeLengths are the lengths of codes of Walsh, and codePrimes those of codes of Legendre.
var (
	codeLengths = []int64{1, 2, 4, 8, 16, 32, 64}
	codePrimes  = []int64{3, 7, 11, 19, 23, 31}
)

// list returns a list of numbers between 2^(low) and 2^(high + 1), and some 0.
func (n *numbers) list(length int64, low, high int) []float32 {
	list := make([]float32, length)
	for i := range list {
		if n.bits()%8 != 0 {
			list[i] = n.next(low, high)
		}
	}
	return list
}

// whole returns a list of whole numbers in -limit..limit, both of which occur often.
func (n *numbers) whole(length, limit int64) []float32 {
	list := make([]float32, length)
	for i := range list {
		switch n.bits() % 4 {
		case 0:
			list[i] = float32(limit)
		case 1:
			list[i] = -float32(limit)
		default:
			list[i] = float32(int64(n.bits()%uint64(2*limit+1)) - limit)
		}
	}
	return list
}

// repeated returns a list that has one number everywhere.
func repeated(length int64, x float32) []float32 { return slices.Repeat([]float32{x}, int(length)) }

// repeatedBut returns a list that has one number everywhere but at one place.
func repeatedBut(length int64, x float32, place int64, other float32) []float32 {
	list := repeated(length, x)
	list[place] = other
	return list
}

// walshSign returns what the code of Walsh for k has at j, digit by digit.
func walshSign(k, j int64) float32 {
	sign := float32(1)
	for k > 0 && j > 0 {
		if k%2 == 1 && j%2 == 1 {
			sign = -sign
		}
		k, j = k/2, j/2
	}
	return sign
}

// walshList returns the code of Walsh of a length and k.
func walshList(length, k int64) (list []float32) {
	for j := range length {
		list = append(list, walshSign(k, j))
	}
	return list
}

// legendreList returns the code of Legendre of p: j is the remainder of a square exactly if it is 0
// or its power with (p - 1) / 2 has the remainder 1.
func legendreList(p int64) []float32 {
	list := []float32{1}
	for j := int64(1); j < p; j++ {
		power := new(big.Int).Exp(big.NewInt(j), big.NewInt((p-1)/2), big.NewInt(p))
		if power.Int64() == 1 {
			list = append(list, 1)
		} else {
			list = append(list, -1)
		}
	}
	return list
}

// maskList returns the mask of the code of Legendre of p.
func maskList(p int64) []float32 {
	list := legendreList(p)
	for i, x := range list {
		if x == -1 {
			list[i] = 0
		}
	}
	return list
}

// rounds makes the rounds of sums by codes with some distances.
func (c *calculation) rounds(a []float32, distances ...int) []float32 {
	list := slices.Clone(a)
	for _, h := range distances {
		for i := range list {
			if i/h%2 == 0 {
				x, y := list[i], list[i+h]
				list[i], list[i+h] = c.plus(x, y), c.plus(x, -y)
			}
		}
	}
	return list
}

// distances returns the distances of the rounds of a list.
func distances(a []float32) (list []int) {
	for h := 1; h < len(a); h *= 2 {
		list = append(list, h)
	}
	return list
}

// sumsByCodes returns the sums by codes of a list.
func (c *calculation) sumsByCodes(a []float32) []float32 { return c.rounds(a, distances(a)...) }

// divided returns a list with all numbers divided by one.
func (c *calculation) divided(a []float32, by float32) (list []float32) {
	for _, x := range a {
		list = append(list, c.over(x, by))
	}
	return list
}

// sumsBack returns the sums by codes back of a list.
func (c *calculation) sumsBack(a []float32) []float32 {
	return c.divided(c.sumsByCodes(a), float32(len(a)))
}

// pictureOfSums returns the picture of a side whose levels are the sums back of a list.
func (c *calculation) pictureOfSums(side int64, a []float32) impl.Picture {
	p := impl.Picture{Side: side}
	for i, x := range c.sumsBack(a) {
		if x > 0 {
			p.Levels[i] = x
		}
	}
	return p
}

// productsInOrder returns the sum of the products of two lists, from 0 on, at places that are told
// in their order.
func (c *calculation) productsInOrder(a, b []float32, places []int64) float32 {
	sum := float32(0)
	for _, j := range places {
		sum = c.plus(sum, c.times(a[j], b[j]))
	}
	return sum
}

// upwards returns the places 0 to n - 1.
func upwards(n int64) (places []int64) {
	for j := range n {
		places = append(places, j)
	}
	return places
}

// sumOfPicture returns the sum of a picture by k.
func (c *calculation) sumOfPicture(p impl.Picture, k int64) float32 {
	n := p.Side * p.Side
	return c.productsInOrder(p.Levels[:n], walshList(n, k), upwards(n))
}

// taken returns a list with, at j, what another one has at the place for j (remainder by the length).
func taken(list []float32, placeFor func(j int64) int64) (other []float32) {
	n := int64(len(list))
	for j := range n {
		other = append(other, list[((placeFor(j)%n)+n)%n])
	}
	return other
}

// shadow returns the shadow of a list, the places for each sum being taken in the order that is told.
func (c *calculation) shadow(a []float32, places []int64) (list []float32) {
	mask := maskList(int64(len(a)))
	for k := range int64(len(a)) {
		list = append(list, c.productsInOrder(a, taken(mask, func(j int64) int64 { return k - j }), places))
	}
	return list
}

// decoded returns the decoded list of a list, as above.
func (c *calculation) decoded(b []float32, places []int64) (list []float32) {
	p := int64(len(b))
	signs := legendreList(p)
	for k := range p {
		sum := c.productsInOrder(b, taken(signs, func(j int64) int64 { return j - k }), places)
		list = append(list, c.over(sum, float32((p+1)/2)))
	}
	return list
}

// correlation returns the correlation of two lists, as above.
func (c *calculation) correlation(a, b []float32, places []int64) (list []float32) {
	for k := range int64(len(a)) {
		list = append(list, c.productsInOrder(a, taken(b, func(j int64) int64 { return j + k }), places))
	}
	return list
}

// numbers returns a list and the code that goes with it, or no list.
func (c *calculation) numbers(list []float32) ([]float32, int64) {
	if c.limit {
		return nil, impl.ErrLimit
	}
	return list, impl.ErrNone
}
