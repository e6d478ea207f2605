package tests

import (
	"math"
	"slices"
	"testing"

	"loop.example/g01225/impl"
)

// wantDegree compares the degree of a source at two cells with a number and a code.
func wantDegree(t *testing.T, s light, p, q int64, want float32, wantCode int64) {
	t.Helper()
	if x, code := impl.DegreeOf(s.list, s.weights, p, q); x != want || code != wantCode {
		t.Errorf("DegreeOf(%v, %d, %d) = %v, %d; want %v, %d", s, p, q, x, code, want, wantCode)
	}
}

// wantVisibility compares the visibility of a source at two cells with a number and a code.
func wantVisibility(t *testing.T, s light, p, q int64, want float32, wantCode int64) {
	t.Helper()
	if x, code := impl.VisibilityOf(s.list, s.weights, p, q); x != want || code != wantCode {
		t.Errorf("VisibilityOf(%v, %d, %d) = %v, %d; want %v, %d", s, p, q, x, code, want, wantCode)
	}
}

// wantFringesAt compares the fringes of a source at two cells with a list and a code.
func wantFringesAt(t *testing.T, s light, p, q int64, want []float32, wantCode int64) {
	t.Helper()
	if list, code := impl.FringesOf(s.list, s.weights, p, q); !slices.Equal(list, want) || code != wantCode {
		t.Errorf("FringesOf(%v, %d, %d) = %v, %d; want %v, %d", s, p, q, list, code, want, wantCode)
	}
}

// wantCoherence compares degree, visibility and fringes at two cells with what is calculated, and
// returns the codes.
func wantCoherence(t *testing.T, s light, p, q int64) [3]int64 {
	t.Helper()
	var ofDegree, ofVisibility, ofFringes calculation
	degree, degreeCode := ofDegree.degree(s, p, q)
	visibility, visibilityCode := ofVisibility.visibility(s, p, q)
	fringes, fringesCode := ofFringes.fringesAt(s, p, q)
	wantDegree(t, s, p, q, degree, degreeCode)
	wantVisibility(t, s, p, q, visibility, visibilityCode)
	wantFringesAt(t, s, p, q, fringes, fringesCode)
	return [3]int64{degreeCode, visibilityCode, fringesCode}
}

func TestCoherenceExactly(t *testing.T) {
	n, codes := numbers{410}, [3]map[int64]int{{}, {}, {}}
	ranges := append(lightRanges, [4]int{31, 31, -1, 0}, [4]int{62, 62, -1, 1}, [4]int{-77, -73, 0, 127}, [4]int{-149, -74, 0, 3})
	for _, r := range ranges {
		for _, side := range sides {
			for _, count := range []int{1, 2, 3, 5} {
				s := n.light(side, count, r)
				// Cells that are 0 in all waves occur, too.
				if dark := n.cell(side); n.bits()%3 == 0 {
					for i := range s.list {
						s.list[i].Cells[dark] = 0
					}
				}
				for range 2 {
					for i, code := range wantCoherence(t, s, n.cell(side), n.cell(side)) {
						codes[i][code]++
					}
				}
			}
		}
	}
	for i, found := range codes {
		if found[impl.ErrNone] < 150 || found[impl.ErrLimit] < 80 || i < 2 && found[impl.ErrState] < 5 {
			t.Errorf("codes of degrees, visibilities and fringes: %v", codes)
		}
	}
}

// All cells of a source with the greatest number of waves are taken with all.
func TestCoherenceOfAllCells(t *testing.T) {
	n := numbers{411}
	for _, side := range []int64{1, 2} {
		s := n.light(side, 16, lightRanges[0])
		for p := range side * side {
			for q := range side * side {
				wantCoherence(t, s, p, q)
			}
		}
	}
	s := n.light(8, 2, lightRanges[0])
	for _, p := range []int64{0, 1, 8, 62, 63} {
		for _, q := range []int64{0, 7, 56, 63} {
			wantCoherence(t, s, p, q)
		}
	}
}

// planes returns the source of two plane waves of the side 2, 1 everywhere and 1, -1, 1 and -1.
func planes(weights ...float32) light {
	return light{[]impl.Wave{flat(2, 1), waveOf(2, 1, -1, 1, -1)}, weights}
}

// The example of the document, and what can be found in one's head.
func TestCoherenceByHand(t *testing.T) {
	plane, code := impl.PlaneWave(2, 1, 1)
	wantNone(t, "PlaneWave", code)
	wantVisibility(t, light{[]impl.Wave{plane}, []float32{1}}, 0, 0, 1, impl.ErrNone)
	s := planes(3, 1)
	for _, cells := range [][3]int64{{0, 1, 0}, {1, 0, 0}, {2, 3, 0}, {0, 0, 1}, {0, 2, 1}, {3, 1, 1}, {3, 3, 1}} {
		want := float32(0.5)
		if cells[2] == 1 {
			want = 1
		}
		wantDegree(t, s, cells[0], cells[1], want, impl.ErrNone)
		wantVisibility(t, s, cells[0], cells[1], want, impl.ErrNone)
	}
	wantDegree(t, planes(1, 1), 0, 1, 0, impl.ErrNone)
	wantVisibility(t, planes(1, 1), 0, 1, 0, impl.ErrNone)
	wantDegree(t, planes(1, 3), 0, 1, 0.5, impl.ErrNone)
	// Degrees and visibilities are different where the levels are.
	one := light{[]impl.Wave{waveOf(2, 3+4i, 5, 10i, 0)}, []float32{1}}
	wantDegree(t, one, 0, 1, 1, impl.ErrNone)
	wantVisibility(t, one, 0, 1, 1, impl.ErrNone)
	wantDegree(t, one, 0, 2, 1, impl.ErrNone)
	wantVisibility(t, one, 0, 2, 0.8, impl.ErrNone)
	wantVisibility(t, one, 2, 0, 0.8, impl.ErrNone)
	wantVisibility(t, one, 3, 0, 0, impl.ErrNone)
	wantVisibility(t, one, 1, 3, 0, impl.ErrNone)
	apart := light{[]impl.Wave{waveOf(2, 1, 0, 2), waveOf(2, 0, 1, 2)}, []float32{1, 1}}
	wantDegree(t, apart, 0, 1, 0, impl.ErrNone)
	wantVisibility(t, apart, 0, 2, exactQuotient(4, 9), impl.ErrNone)
	wantDegree(t, apart, 0, 2, exactQuotient(2, exactRoot(8)), impl.ErrNone)
}

func TestFringesByHand(t *testing.T) {
	s := planes(3, 1)
	fringes, code := impl.FringesOf(s.list, s.weights, 0, 1)
	wantNone(t, "FringesOf", code)
	if len(fringes) != 64 {
		t.Fatalf("%d fringes", len(fringes))
	}
	for k, want := range map[int]float32{0: 12, 8: exactSum(8, 4*real(phaseAt(8))), 16: 8, 32: 4, 48: 8, 56: exactSum(8, 4*real(phaseAt(8)))} {
		if fringes[k] != want {
			t.Errorf("the fringe for %d is %v; want %v", k, fringes[k], want)
		}
	}
	for k := range 64 {
		if math.Abs(float64(fringes[k])-8-4*math.Cos(float64(k)*math.Pi/32)) > 1e-5 {
			t.Errorf("the fringe for %d is %v", k, fringes[k])
		}
	}
	// The mutual number i is turned further by P(k): the fringe falls from k = 0 on.
	turned := light{[]impl.Wave{waveOf(2, 1, 1i)}, []float32{1}}
	fringes, code = impl.FringesOf(turned.list, turned.weights, 0, 1)
	if code != impl.ErrNone || fringes[0] != 2 || fringes[16] != 0 || fringes[32] != 2 || fringes[48] != 4 {
		t.Errorf("fringes of i: %v, %d", fringes, code)
	}
	fringes, code = impl.FringesOf(turned.list, turned.weights, 1, 0)
	if code != impl.ErrNone || fringes[0] != 2 || fringes[16] != 4 || fringes[32] != 2 || fringes[48] != 0 {
		t.Errorf("fringes of -i: %v, %d", fringes, code)
	}
	wantFringesAt(t, turned, 2, 3, make([]float32, 64), impl.ErrNone)
	wantFringesAt(t, planes(0, 0), 1, 2, make([]float32, 64), impl.ErrNone)
	wantFringesAt(t, planes(1, 1), 1, 2, slices.Repeat([]float32{4}, 64), impl.ErrNone)
	wantFringesAt(t, light{[]impl.Wave{waveOf(2, 0, 7)}, []float32{1}}, 2, 1, slices.Repeat([]float32{49}, 64), impl.ErrNone)
}

// The levels are added to each other before twice the real part is added: 2^25 and 3 end as 2^25 + 4,
// and with 2 more as 2^25 + 8, where 2^25 and 5 would end as 2^25 + 4.
func TestOrderOfFringes(t *testing.T) {
	small := light{[]impl.Wave{waveOf(2, 0x1p12+0x1p12i, 0), waveOf(2, 0, 1), waveOf(2, 1, 1)}, []float32{1, 2, 1}}
	fringes, code := impl.FringesOf(small.list, small.weights, 0, 1)
	wantNone(t, "FringesOf", code)
	for k, want := range map[int]float32{0: 0x1p25 + 8, 16: 0x1p25 + 4, 32: 0x1p25, 48: 0x1p25 + 4} {
		if fringes[k] != want {
			t.Errorf("the fringe for %d is 2^25 + %v; want 2^25 + %v", k, fringes[k]-0x1p25, want-0x1p25)
		}
	}
}

// Degrees and visibilities are not defined where levels are 0, or products and sums round to 0.
func TestUndefinedCoherence(t *testing.T) {
	const half = 0x1p-75
	state := int64(impl.ErrState)
	for _, weights := range [][]float32{{0, 0}, {zeroBelow, 0}, {zeroBelow, zeroBelow}} {
		for p := range int64(4) {
			for q := range int64(4) {
				wantDegree(t, planes(weights...), p, q, 0, state)
				wantVisibility(t, planes(weights...), p, q, 0, state)
			}
		}
	}
	// One cell, in the place 0, is bright; the others are 0, or their squares or levels round to 0.
	for _, r := range []struct {
		bright, dark complex64
		weight       float32
		count        int
	}{
		{1, 0, 1, 1}, {1, minusZero, 3, 2}, {1i, half, 1, 16}, {0x1p-50, half * 1i, 0x1p100, 3}, {2, 0x1p-149, 4, 2},
		{0x1p-60, 0x1p-100 + 0x1p-90i, 0x1p127, 1}, {1, 0x1.fffp-76, 1, 2}, {1, 0x1p-1, 2 * least, 1}, {2, 0.5 + 0.5i, least, 16},
		{1, 0.25, 7 * least, 16}, {1, 0x1p-70, 0x1p-20, 16}, {1, 0x1.6p-1, least, 5},
	} {
		s := light{weights: slices.Repeat([]float32{r.weight}, r.count)}
		for range r.count {
			s.list = append(s.list, waveOf(2, r.bright, r.dark, r.dark, 0))
		}
		for p := range int64(4) {
			for q := range int64(4) {
				codes := wantCoherence(t, s, p, q)
				isBright := p == 0 && q == 0
				isSeen := p == 0 || q == 0
				if (codes[0] == impl.ErrNone) != isBright || (codes[1] == impl.ErrNone) != isSeen || codes[2] != impl.ErrNone {
					t.Errorf("the cells %d and %d of %v: %v", p, q, r, codes)
				}
			}
		}
	}
	// A little more is enough, also where the square of the mutual number rounds to 0.
	const more = 0x1.1p-75
	wantDegree(t, light{[]impl.Wave{waveOf(2, 1, more)}, []float32{1}}, 0, 1, 1, impl.ErrNone)
	wantDegree(t, light{[]impl.Wave{waveOf(2, more, more)}, []float32{1}}, 0, 1, 0, impl.ErrNone)
	wantVisibility(t, light{[]impl.Wave{waveOf(2, 0, more)}, []float32{1}}, 0, 1, 0, impl.ErrNone)
	wantVisibility(t, light{[]impl.Wave{waveOf(2, 0, more)}, []float32{1}}, 1, 1, 0, impl.ErrNone)
	wantDegree(t, light{[]impl.Wave{flat(1, 1)}, []float32{least}}, 0, 0, 0, impl.ErrNone)
}

// wantCoherenceCodes compares the codes of degree, visibility and fringes at two cells, also when
// these are exchanged.
func wantCoherenceCodes(t *testing.T, s light, p, q int64, want ...int64) {
	t.Helper()
	first, second := wantCoherence(t, s, p, q), wantCoherence(t, s, q, p)
	if !slices.Equal(first[:], want) || !slices.Equal(second[:], want) {
		t.Errorf("the cells %d and %d of %v: %v and %v; want %v", p, q, s, first, second, want)
	}
}

// What is not finite when it arises is ErrLimit, though the answer without it would be finite.
func TestLimitsOfCoherence(t *testing.T) {
	const none, limit = impl.ErrNone, impl.ErrLimit
	for _, turn := range []complex64{1, 1i, -1, -1i} {
		// The square of the mutual number is not finite, and its root would be; fringes have none.
		wantCoherenceCodes(t, light{[]impl.Wave{flat(2, 0x1p32*turn)}, []float32{1}}, 0, 1, limit, limit, none)
		wantCoherenceCodes(t, light{[]impl.Wave{flat(2, 0x1.fffffep31*turn)}, []float32{1}}, 0, 1, none, none, none)
		wantCoherenceCodes(t, light{[]impl.Wave{flat(2, turn)}, []float32{0x1p64}}, 2, 3, limit, limit, none)
		// The sum of levels is not finite, but each of them is, and the mutual number is 0.
		whole := light{[]impl.Wave{flat(2, 0x1p63*turn), waveOf(2, 0x1p63, -0x1p63)}, []float32{1, 1}}
		wantCoherenceCodes(t, whole, 0, 1, none, limit, limit)
		wantCoherenceCodes(t, whole, 0, 2, limit, limit, limit)
		half := light{whole.list, []float32{0.5, 0.5}}
		wantCoherenceCodes(t, half, 0, 1, none, none, none)
		wantCoherenceCodes(t, half, 0, 2, limit, limit, none)
	}
}

// A level that is not finite is ErrLimit at p and at q, beside whatever level the other one has: there
// is no product with it, nor a sum, and so none that is 0. (Levels of other cells are in
// l09_cells_test.go.)
func TestLimitsOfIntensities(t *testing.T) {
	const none, limit = impl.ErrNone, impl.ErrLimit
	for _, side := range sides {
		for place := range side * side {
			for _, cell := range []int64{0, side*side - 1, place} {
				for _, weight := range []float32{0, zeroBelow, least, 1, most} {
					s := light{slices.Repeat([]impl.Wave{flat(side, 1)}, 3), []float32{1, 1, 1}}
					s.list[place%3], s.weights[place%3] = waveBut(side, 0, place, 0x1p64), weight
					wantCoherenceCodes(t, s, place, cell, limit, limit, limit)
				}
				// A level is not finite only with its weight, or only as a sum.
				great := waveBut(side, 0, place, 0x1p30)
				wantCoherenceCodes(t, light{[]impl.Wave{great}, []float32{0x1p68}}, place, cell, limit, limit, limit)
				sum := light{slices.Repeat([]impl.Wave{waveBut(side, 0, place, 0x1p63)}, 4), []float32{1, 1, 1, 1}}
				wantCoherenceCodes(t, sum, place, cell, limit, limit, limit)
				if cell != place {
					wantVisibility(t, light{[]impl.Wave{great}, []float32{0x1p67}}, place, cell, 0, none)
					wantVisibility(t, light{sum.list[:3], sum.weights[:3]}, place, cell, 0, none)
				}
			}
		}
	}
}
