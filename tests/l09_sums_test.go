package tests

import (
	"math"
	"slices"
	"testing"

	"loop.example/g01225/impl"
)

// lightRanges are sizes of cells and of weights: usual ones, small, great and mixed ones.
var lightRanges = [][4]int{
	{-3, 3, -3, 3}, {-30, 30, -30, 30}, {-77, -71, -3, 3}, {-77, -71, 110, 127}, {-149, -120, 100, 127},
	{-20, 20, -149, -120}, {55, 62, -3, 3}, {62, 64, -3, 0}, {63, 63, -149, -120}, {120, 127, -149, -120}, {-70, 63, -70, 3},
}

// lightCounts are numbers of waves.
var lightCounts = []int{1, 2, 3, 5, 16}

// wantMutual compares the mutual number of a source at two cells with a complex number and a code.
func wantMutual(t *testing.T, s light, p, q int64, want complex64, wantCode int64) {
	t.Helper()
	if z, code := impl.MutualNumber(s.list, s.weights, p, q); z != want || code != wantCode {
		t.Errorf("MutualNumber(%v, %d, %d) = %v, %d; want %v, %d", s, p, q, z, code, want, wantCode)
	}
}

// wantSourceIntensity compares the intensity of a source with a picture and a code.
func wantSourceIntensity(t *testing.T, s light, want impl.Picture, wantCode int64) {
	t.Helper()
	p, code := impl.SourceIntensity(s.list, s.weights)
	wantPicture(t, "SourceIntensity", p, code, want, wantCode)
}

// wantMixed compares the mixed wave of a source with a wave and a code.
func wantMixed(t *testing.T, s light, want impl.Wave, wantCode int64) {
	t.Helper()
	w, code := impl.MixWaves(s.list, s.weights)
	wantWave(t, "MixWaves", w, code, want, wantCode)
}

// forLights calls use with sources of all sides, counts and sizes.
func forLights(n *numbers, use func(s light, side int64)) {
	for _, r := range lightRanges {
		for _, side := range sides {
			for _, count := range lightCounts {
				use(n.light(side, count, r), side)
			}
		}
	}
}

// cell returns the place of a cell of a side.
func (n *numbers) cell(side int64) int64 { return int64(n.bits() % uint64(side*side)) }

func TestMutualNumbersExactly(t *testing.T) {
	n, codes := numbers{400}, map[int64]int{}
	forLights(&n, func(s light, side int64) {
		for range 8 {
			p, q, c := n.cell(side), n.cell(side), calculation{}
			want := c.mutual(s, p, q)
			if c.limit {
				want = 0
			}
			wantMutual(t, s, p, q, want, c.code())
			codes[c.code()]++
		}
	})
	if codes[impl.ErrNone] < 1000 || codes[impl.ErrLimit] < 100 {
		t.Errorf("codes of mutual numbers: %v", codes)
	}
}

// At all pairs of cells the first one is that of the conjugate.
func TestMutualNumbersOfAllCells(t *testing.T) {
	n := numbers{401}
	for _, side := range sides {
		s := n.light(side, 2, [4]int{-3, 3, -3, 3})
		for p := range side * side {
			for q := range side * side {
				c := calculation{}
				wantMutual(t, s, p, q, c.mutual(s, p, q), impl.ErrNone)
			}
		}
	}
	s := light{[]impl.Wave{waveOf(2, 3+4i, 5, 1i, 0)}, []float32{2}}
	for cells, want := range map[[2]int64]complex64{
		{0, 0}: 50, {0, 1}: 30 - 40i, {1, 0}: 30 + 40i, {0, 2}: 8 + 6i, {2, 0}: 8 - 6i, {1, 2}: 10i, {2, 1}: -10i, {3, 0}: 0, {1, 3}: 0, {3, 3}: 0,
	} {
		wantMutual(t, s, cells[0], cells[1], want, impl.ErrNone)
	}
}

func TestIntensitiesOfSourcesExactly(t *testing.T) {
	n, codes := numbers{402}, map[int64]int{}
	forLights(&n, func(s light, side int64) {
		c := calculation{}
		want := c.intensity(s)
		if c.limit {
			want = impl.Picture{}
		}
		wantSourceIntensity(t, s, want, c.code())
		codes[c.code()]++
	})
	if codes[impl.ErrNone] < 100 || codes[impl.ErrLimit] < 20 {
		t.Errorf("codes of intensities: %v", codes)
	}
}

func TestMixedWavesExactly(t *testing.T) {
	n, codes := numbers{403}, map[int64]int{}
	forLights(&n, func(s light, side int64) {
		c := calculation{}
		want, code := c.result(c.mixed(s))
		wantMixed(t, s, want, code)
		codes[code]++
	})
	great := [4]int{124, 127, -3, 0}
	for _, side := range sides {
		for _, count := range lightCounts {
			s, c := n.light(side, count, great), calculation{}
			want, code := c.result(c.mixed(s))
			wantMixed(t, s, want, code)
			codes[code]++
		}
	}
	if codes[impl.ErrNone] < 100 || codes[impl.ErrLimit] < 10 {
		t.Errorf("codes of mixed waves: %v", codes)
	}
}

func TestSumsByHand(t *testing.T) {
	s := light{[]impl.Wave{waveOf(2, 1, 2i, 3+4i, 0), waveOf(2, 1i, -1, 1, 2)}, []float32{2, 0.5}}
	wantSourceIntensity(t, s, pictureOf(2, 2.5, 8.5, 50.5, 2), impl.ErrNone)
	wantMixed(t, s, waveOf(2, 2+0.5i, -0.5+4i, 6.5+8i, 1), impl.ErrNone)
	wantMutual(t, s, 0, 1, 4.5i, impl.ErrNone)
	wantMutual(t, s, 1, 0, -4.5i, impl.ErrNone)
	wantMutual(t, s, 2, 3, 1, impl.ErrNone)
	one := light{[]impl.Wave{waveOf(1, 3-4i)}, []float32{0.25}}
	wantMutual(t, one, 0, 0, 6.25, impl.ErrNone)
	wantSourceIntensity(t, one, pictureOf(1, 6.25), impl.ErrNone)
	wantMixed(t, one, waveOf(1, 0.75-1i), impl.ErrNone)
	dark := light{[]impl.Wave{flat(4, 2), flat(4, 1i)}, []float32{0, zeroBelow}}
	wantMutual(t, dark, 3, 7, 0, impl.ErrNone)
	wantSourceIntensity(t, dark, even(4, 0), impl.ErrNone)
	wantMixed(t, dark, flat(4, 0), impl.ErrNone)
}

// lightOfCells returns the source of the side 2 with one cell of each wave, at the place 1, the cell
// at the place 2 being 1, with one weight for all.
func lightOfCells(weight float32, cells ...complex64) light {
	s := light{weights: slices.Repeat([]float32{weight}, len(cells))}
	for _, z := range cells {
		s.list = append(s.list, waveOf(2, 0, z, 1))
	}
	return s
}

// Sums begin with the first wave: what is small is lost beside what came before it.
func TestOrderOfSums(t *testing.T) {
	const great = 1 << 24
	for _, turn := range []complex64{1, 1i, -1, -1i} {
		falling := lightOfCells(1, great*turn, turn, turn, turn)
		rising := lightOfCells(1, turn, turn, turn, great*turn)
		wantMutual(t, falling, 2, 1, great*turn, impl.ErrNone)
		wantMutual(t, rising, 2, 1, (great+4)*turn, impl.ErrNone)
		wantMixed(t, falling, waveOf(2, 0, great*turn, 4), impl.ErrNone)
		wantMixed(t, rising, waveOf(2, 0, (great+4)*turn, 4), impl.ErrNone)
	}
	falling, rising := lightOfCells(1, 1<<12, 1, 1, 1), lightOfCells(1, 1, 1, 1, 1<<12)
	wantSourceIntensity(t, falling, pictureOf(2, 0, great, 4), impl.ErrNone)
	wantSourceIntensity(t, rising, pictureOf(2, 0, great+4, 4), impl.ErrNone)
	// In pairs, and from the right, these sums are 2.
	wantMutual(t, lightOfCells(1, 1, great, -great, 1), 2, 1, 1, impl.ErrNone)
	wantMixed(t, lightOfCells(1, 1, great, -great, 1), waveOf(2, 0, 1, 4), impl.ErrNone)
}

// A weight times something is rounded before it is added: 3 and a product that ends as 1 + 2^-22 add
// up to 4, and with what this product has been before to the next number.
func TestTermsAreRounded(t *testing.T) {
	const one = 1 + 0x1p-23
	weights := []float32{3, one}
	s := light{[]impl.Wave{waveOf(2, 0, 1, 1), waveOf(2, 0, one, 1)}, weights}
	wantMutual(t, s, 2, 1, 4, impl.ErrNone)
	wantMixed(t, s, waveOf(2, 0, 4, 4), impl.ErrNone)
	turned := light{[]impl.Wave{waveOf(2, 0, 1i, 1), waveOf(2, 0, one*1i, 1)}, weights}
	wantMutual(t, turned, 2, 1, 4i, impl.ErrNone)
	wantMixed(t, turned, waveOf(2, 0, 4i, 4), impl.ErrNone)
	root := float32(math.Sqrt(0x1p-23))
	if exactSquare(complex(1, root)) != one {
		t.Fatalf("the square of %v is another one", complex(1, root))
	}
	squares := light{[]impl.Wave{waveOf(2, 0, 1), waveOf(2, 0, complex(1, root))}, weights}
	wantSourceIntensity(t, squares, pictureOf(2, 0, 4), impl.ErrNone)
}

// Products and squares are rounded to a float64 and once more before they are weighted: what is a
// little more than half a step is half a step then, which is rounded to the even number.
func TestProductsAreRoundedTwice(t *testing.T) {
	const z, level = 1 + 0x1p-12 + 0x1p-40i, 1 + 0x1p-11
	s := light{[]impl.Wave{waveOf(2, z, z, 1)}, []float32{1}}
	wantMutual(t, s, 0, 1, level, impl.ErrNone)
	wantSourceIntensity(t, s, pictureOf(2, level, level, 1), impl.ErrNone)
	// The weight is multiplied with the product, and not with one of the cells.
	third := light{[]impl.Wave{waveOf(2, 1+0x1p-23, 3)}, []float32{1 + 0x1p-23}}
	wantMutual(t, third, 0, 1, 3+0x1p-20, impl.ErrNone)
	wantMutual(t, third, 1, 0, 3+0x1p-20, impl.ErrNone)
}

// Numbers below the normal ones have fewer digits, and what is less than half the least one is 0.
func TestSmallSums(t *testing.T) {
	const half = 0x1p-75
	s := lightOfCells(1, least, 3*least, -least)
	wantMutual(t, s, 2, 1, 3*least, impl.ErrNone)
	wantMixed(t, s, waveOf(2, 0, 3*least, 3), impl.ErrNone)
	wantMixed(t, lightOfCells(0.5, least, 3*least, 5*least), waveOf(2, 0, 4*least, 1.5), impl.ErrNone)
	wantMutual(t, lightOfCells(0.5, least, least, least), 2, 1, 0, impl.ErrNone)
	wantSourceIntensity(t, lightOfCells(1, half, half, half), pictureOf(2, 0, 0, 3), impl.ErrNone)
	wantSourceIntensity(t, lightOfCells(1, 1.5*half, 0, half), pictureOf(2, 0, least, 3), impl.ErrNone)
	// A square that is rounded to 0 remains 0 with a great weight.
	wantSourceIntensity(t, lightOfCells(0x1p126, half), pictureOf(2, 0, 0, 0x1p126), impl.ErrNone)
	wantSourceIntensity(t, lightOfCells(least, 1, 0.5, 0.75), pictureOf(2, 0, 2*least, 3*least), impl.ErrNone)
	wantMutual(t, lightOfCells(least, 0.5, 0.5i, 0.75+1.5i), 2, 1, least+2*least*1i, impl.ErrNone)
}

// The greatest numbers occur as cells, weights and sums.
func TestGreatSums(t *testing.T) {
	wantMutual(t, lightOfCells(1, most), 2, 1, most, impl.ErrNone)
	wantMutual(t, lightOfCells(most, 1), 1, 1, most, impl.ErrNone)
	wantMutual(t, lightOfCells(most, -1i), 1, 2, most*1i, impl.ErrNone)
	wantMixed(t, lightOfCells(1, most, -most, complex(-most, most)), waveOf(2, 0, complex(-most, most), 3), impl.ErrNone)
	wantMixed(t, lightOfCells(0.5, most, most), waveOf(2, 0, most, 1), impl.ErrNone)
	wantMixed(t, light{[]impl.Wave{waveOf(1, least)}, []float32{most}}, waveOf(1, least*most), impl.ErrNone)
	wantSourceIntensity(t, lightOfCells(most, 1), pictureOf(2, 0, most, most), impl.ErrNone)
	wantSourceIntensity(t, lightOfCells(0x1p40, 0x1p43), pictureOf(2, 0, 0x1p126, 0x1p40), impl.ErrNone)
	wantSourceIntensity(t, lightOfCells(0x1p-30, 0x1.fffffep63), pictureOf(2, 0, 0x1.fffffcp97, 0x1p-30), impl.ErrNone)
}

// wantSumLimits wants what is told of the mutual number at 2 and 1, of the intensity and of the
// mixed wave: whether something that is not finite arises.
func wantSumLimits(t *testing.T, s light, mutual, intensity, mixed bool) {
	t.Helper()
	_, mutualCode := impl.MutualNumber(s.list, s.weights, 2, 1)
	_, turnedCode := impl.MutualNumber(s.list, s.weights, 1, 2)
	_, intensityCode := impl.SourceIntensity(s.list, s.weights)
	_, mixedCode := impl.MixWaves(s.list, s.weights)
	if mutualCode != codeIf(mutual) || turnedCode != codeIf(mutual) || intensityCode != codeIf(intensity) || mixedCode != codeIf(mixed) {
		t.Errorf("%v: %d, %d, %d, %d; want limits %t, %t, %t", s, mutualCode, turnedCode, intensityCode, mixedCode, mutual, intensity, mixed)
	}
}

// What is not finite when it arises is ErrLimit, also where the answer without it would be finite.
func TestLimitsOfSums(t *testing.T) {
	for _, turn := range []complex64{1, 1i, -1, -1i} {
		// Sums: what is too great on the way stays so, though another order would be finite.
		wantSumLimits(t, lightOfCells(1, most*turn, most*turn, -most*turn, -most*turn), true, true, true)
		wantSumLimits(t, lightOfCells(1, most*turn, -most*turn, most*turn, -most*turn), false, true, false)
		wantSumLimits(t, lightOfCells(1, 0x1.8p63*turn, 0x1p63*turn), false, false, false)
		wantSumLimits(t, lightOfCells(1, 0x1.8p63*turn, 0x1.8p63*turn), false, true, false)
		// A weight times something.
		wantSumLimits(t, lightOfCells(0x1p30, 0x1p50*turn), false, true, false)
		wantSumLimits(t, lightOfCells(0x1p100, 0x1p28*turn), true, true, true)
		wantSumLimits(t, lightOfCells(0x1p100, 0x1p28*turn, -0x1p28*turn), true, true, true)
		wantSumLimits(t, lightOfCells(0x1p100, 0x1p27*turn, -0x1p27*turn), false, true, false)
		// Weights less than 1 do not help squares that are not finite, and those of 0 neither.
		for _, weight := range []float32{0, zeroBelow, least, 0.5} {
			wantSumLimits(t, lightOfCells(weight, 0x1p64*turn), false, true, false)
			wantSumLimits(t, lightOfCells(weight, 1, 0x1p64*turn, 1), false, true, false)
			wantSumLimits(t, lightOfCells(weight, 1, 1, 0x1p64*turn), false, true, false)
			wantSumLimits(t, lightOfCells(weight, 0x1.fffffep63*turn), false, false, false)
		}
		wantSumLimits(t, lightOfCells(0, 0x1.8p64*turn, most*turn), false, true, false)
		// A square or product that is half a step too great is none, and one a little less is the
		// greatest number.
		wantSumLimits(t, lightOfCells(1, most*turn, 0x1p103*turn), true, true, true)
		wantSumLimits(t, lightOfCells(1, most*turn, 0x1.fffffep102*turn), false, true, false)
	}
}

// Products that are not finite are ErrLimit in either part, with a weight 0 too, in the first, a
// middle and the last wave; the cells of other places do not matter.
func TestLimitsOfProducts(t *testing.T) {
	for _, z := range []complex64{0x1p64, -0x1p64i, 0x1p64 + 0x1p64i, 0x1p64 - 0x1p64i} {
		for _, weight := range []float32{0, zeroBelow, least, 1, most} {
			for place := range 3 {
				s := light{slices.Repeat([]impl.Wave{flat(2, 1)}, 3), []float32{1, 1, 1}}
				s.weights[place] = weight
				s.list[place] = waveOf(2, 0, z, 0x1p64, 1)
				wantMutual(t, s, 1, 2, 0, impl.ErrLimit)
				wantMutual(t, s, 2, 1, 0, impl.ErrLimit)
				wantMutual(t, s, 1, 1, 0, impl.ErrLimit)
				wantMutual(t, s, 3, 0, 2, impl.ErrNone)
				wantSourceIntensity(t, s, impl.Picture{}, impl.ErrLimit)
			}
		}
	}
	// Only one of the parts is not finite.
	for _, z := range []complex64{complex(0x1p64, least), complex(least, 0x1p64)} {
		s := light{[]impl.Wave{waveOf(2, z, 0x1p64), waveOf(2, 1, 0)}, []float32{1, 1}}
		wantMutual(t, s, 0, 1, 0, impl.ErrLimit)
		wantMutual(t, s, 1, 0, 0, impl.ErrLimit)
	}
}

// A mixed wave is ErrLimit where a part of one cell, at whatever place, is not finite.
func TestLimitsOfMixedWaves(t *testing.T) {
	for _, side := range sides {
		for place := range side * side {
			for _, z := range []complex64{most, -most, complex(0, most), complex(0, -most)} {
				list := []impl.Wave{flat(side, 0), waveBut(side, 1, place, z), waveBut(side, 1, place, z)}
				// Half a step beyond the greatest number is too much, and a little less is lost.
				wantMixed(t, light{list, []float32{most, 1, 0x1.000002p-25}}, impl.Wave{}, impl.ErrLimit)
				wantMixed(t, light{list, []float32{most, 1, 0x1p-25}}, waveBut(side, 1, place, z), impl.ErrNone)
				wantMixed(t, light{list, []float32{1, 2, 0}}, impl.Wave{}, impl.ErrLimit)
			}
		}
	}
}

// All further cells and levels of sums are 0.
func TestFurtherCellsOfSums(t *testing.T) {
	n := numbers{404}
	for _, side := range sides {
		s := n.light(side, 3, lightRanges[0])
		picture, code := impl.SourceIntensity(s.list, s.weights)
		wantNone(t, "SourceIntensity", code)
		mixed, code := impl.MixWaves(s.list, s.weights)
		wantNone(t, "MixWaves", code)
		results{pictures: []impl.Picture{picture}, waves: []impl.Wave{mixed}}.wantOnSide(t, side)
	}
}
