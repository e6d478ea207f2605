package tests

import (
	"slices"
	"testing"

	"loop.example/g01225/impl"
)

// Promise 9 and guarantee: mutual numbers turned round are conjugates, codes included.
func TestMutualNumbersTurnedRound(t *testing.T) {
	n, found := numbers{430}, 0
	forLights(&n, func(s light, side int64) {
		for range 10 {
			p, q := n.cell(side), n.cell(side)
			z, code := impl.MutualNumber(s.list, s.weights, p, q)
			wantMutual(t, s, q, p, complex(real(z), -imag(z)), code)
			if code == impl.ErrNone && z != 0 {
				found++
			}
		}
	})
	if found < 1000 {
		t.Errorf("%d mutual numbers", found)
	}
}

// Promise 9 and guarantee: mutual numbers of a cell with itself are its levels.
func TestMutualNumbersOfOneCell(t *testing.T) {
	n, found := numbers{431}, 0
	forLights(&n, func(s light, side int64) {
		picture, code := impl.SourceIntensity(s.list, s.weights)
		if code != impl.ErrNone {
			// Without an intensity a cell has its mutual number nevertheless, or none.
			return
		}
		for p := range side * side {
			wantMutual(t, s, p, p, complex(picture.Levels[p], 0), impl.ErrNone)
			if picture.Levels[p] > 0 {
				found++
			}
		}
	})
	if found < 1000 {
		t.Errorf("%d levels", found)
	}
}

// with returns a source with a wave and a weight put in at a place.
func (s light) with(place int, w impl.Wave, weight float32) light {
	return light{slices.Insert(slices.Clone(s.list), place, w), slices.Insert(slices.Clone(s.weights), place, weight)}
}

// Guarantee: weights that are 0 can be left out, at whatever place, with their waves.
func TestWeightsOfNothing(t *testing.T) {
	n := numbers{432}
	for _, r := range lightRanges[:6] {
		for _, side := range sides {
			for _, count := range []int{1, 2, 3, 15} {
				s := n.light(side, count, r)
				s.weights[0] = 1
				other := s.with(int(n.bits()%uint64(count+1)), n.wave(side, -30, 30), []float32{0, zeroBelow}[n.bits()%2])
				p, q := n.cell(side), n.cell(side)
				mutual, code := impl.MutualNumber(s.list, s.weights, p, q)
				wantMutual(t, other, p, q, mutual, code)
				intensity, code := impl.SourceIntensity(s.list, s.weights)
				wantSourceIntensity(t, other, intensity, code)
				degree, code := impl.DegreeOf(s.list, s.weights, p, q)
				wantDegree(t, other, p, q, degree, code)
				visibility, code := impl.VisibilityOf(s.list, s.weights, p, q)
				wantVisibility(t, other, p, q, visibility, code)
				fringes, code := impl.FringesOf(s.list, s.weights, p, q)
				wantFringesAt(t, other, p, q, fringes, code)
				mixed, code := impl.MixWaves(s.list, s.weights)
				wantMixed(t, other, mixed, code)
				shares, code := impl.NormWeights(s.weights)
				more, moreCode := impl.NormWeights(other.weights)
				if code != moreCode {
					t.Errorf("the codes %d of %v and %d of %v", code, s.weights, moreCode, other.weights)
				}
				if isNothing := func(x float32) bool { return x == 0 }; !slices.Equal(slices.DeleteFunc(more, isNothing), slices.DeleteFunc(shares, isNothing)) {
					t.Errorf("the shares %v of %v and %v of %v", shares, s.weights, more, other.weights)
				}
			}
		}
	}
}

// Guarantee: a source with one wave of the weight 1 has the intensity of the wave.
func TestSourcesOfOneWave(t *testing.T) {
	n, codes := numbers{433}, map[int64]int{}
	for _, r := range append(ranges, [2]int{-77, -73}, [2]int{62, 63}) {
		for _, side := range sides {
			for range 6 {
				w := n.wave(side, r[0], r[1])
				want, code := impl.IntensityOf(w)
				wantSourceIntensity(t, light{[]impl.Wave{w}, []float32{1}}, want, code)
				wantMixed(t, light{[]impl.Wave{w}, []float32{1}}, w, impl.ErrNone)
				codes[code]++
			}
		}
	}
	if codes[impl.ErrNone] < 100 || codes[impl.ErrLimit] < 20 {
		t.Errorf("codes of intensities: %v", codes)
	}
}

// A plane wave shows all that can be seen: its degrees and visibilities are 1, but for rounding.
func TestPlanesAreCoherent(t *testing.T) {
	n := numbers{434}
	for _, side := range sides {
		for range 20 {
			list, code := impl.PlaneSource(side, [][]int64{{int64(n.bits()%129) - 64, int64(n.bits()%129) - 64}})
			wantNone(t, "PlaneSource", code)
			s := light{list, []float32{abs(n.next(-20, 20))}}
			p, q := n.cell(side), n.cell(side)
			degree, code := impl.DegreeOf(s.list, s.weights, p, q)
			wantNone(t, "DegreeOf", code)
			visibility, code := impl.VisibilityOf(s.list, s.weights, p, q)
			wantNone(t, "VisibilityOf", code)
			if abs(degree-1) > 1e-6 || abs(visibility-1) > 1e-6 {
				t.Errorf("the degree %v and the visibility %v of a plane wave", degree, visibility)
			}
		}
	}
}

// coherenceOf returns what the functions of chapter 9 make of a source and of slopes.
func coherenceOf(t *testing.T, s light, p, q int64, slopes [][]int64) (all results, table [][]complex64) {
	t.Helper()
	add := func(x float32, code int64) {
		wantNone(t, "a function of numbers", code)
		all.numbers = append(all.numbers, x)
	}
	table, code := impl.InnerTable(s.list)
	wantNone(t, "InnerTable", code)
	z, code := impl.MutualNumber(s.list, s.weights, p, q)
	add(real(z), code)
	add(imag(z), code)
	add(impl.DegreeOf(s.list, s.weights, p, q))
	add(impl.VisibilityOf(s.list, s.weights, p, q))
	picture, code := impl.SourceIntensity(s.list, s.weights)
	wantNone(t, "SourceIntensity", code)
	all.pictures = append(all.pictures, picture)
	mixed, code := impl.MixWaves(s.list, s.weights)
	wantNone(t, "MixWaves", code)
	list, code := impl.PlaneSource(s.list[0].Side, slopes)
	wantNone(t, "PlaneSource", code)
	all.waves = append(list, mixed)
	fringes, code := impl.FringesOf(s.list, s.weights, p, q)
	wantNone(t, "FringesOf", code)
	shares, code := impl.NormWeights(s.weights)
	wantNone(t, "NormWeights", code)
	all.numbers = slices.Concat(all.numbers, fringes, shares)
	return all, table
}

// Zeros of negative sign, also beyond the side, are zeros, and all further cells and levels of what
// arises are 0.
func TestZerosOfNegativeSignInSources(t *testing.T) {
	n := numbers{435}
	for _, side := range sides {
		for range 4 {
			waves := []impl.Wave{flat(side, 1), waveBut(side, 0, side*side-1, 2-1i), flat(side, 0), n.wave(side, -2, 2), n.mask(side)}
			var others []impl.Wave
			for _, w := range waves {
				others = append(others, signed(w))
			}
			s, other := light{waves, []float32{0, 1, 2, 0, 1}}, light{others, []float32{zeroBelow, 1, 2, zeroBelow, 1}}
			s.weights[3], other.weights[3] = 1, 1
			p, q := n.cell(side), n.cell(side)
			want, wantTable := coherenceOf(t, s, p, q, [][]int64{{0, 0}})
			got, table := coherenceOf(t, other, p, q, [][]int64{{0, 0}})
			if !got.isSame(want) || !slices.EqualFunc(table, wantTable, slices.Equal) {
				t.Errorf("the side %d with zeros of negative sign: %v, %v; want %v, %v", side, got, table, want, wantTable)
			}
			want.wantOnSide(t, side)
			got.wantOnSide(t, side)
		}
	}
	wantDegree(t, light{[]impl.Wave{waveOf(2, minusZero, 1)}, []float32{1}}, 0, 1, 0, impl.ErrState)
	wantVisibility(t, light{[]impl.Wave{waveOf(2, minusZero, minusZero)}, []float32{1}}, 0, 1, 0, impl.ErrState)
}

// spoil overwrites a list and what is behind its end.
func spoil[T any](list []T, with T) {
	whole := list[:cap(list)]
	for i := range whole {
		whole[i] = with
	}
}

// Results depend on nothing but the arguments, which stay as they are, also behind their ends; lists
// that are returned go their own ways, and nothing is kept.
func TestSourcesKeepNothing(t *testing.T) {
	n := numbers{436}
	for _, side := range sides {
		whole := n.light(side, 7, [4]int{-1, 1, -1, 1})
		whole.weights[2] = 1
		// The same wave occurs twice, and so do slopes, with the same memory.
		whole.list[4] = whole.list[3]
		slope := []int64{3, -5, 7, 9}
		slopes := [][]int64{slope[:2], {1, 1}, slope[:2], {2, 2}}
		kept := light{slices.Clone(whole.list), slices.Clone(whole.weights)}
		s := light{whole.list[1:5], whole.weights[1:5]}
		p, q := n.cell(side), n.cell(side)
		first, table := coherenceOf(t, s, p, q, slopes[:3])
		again, tableAgain := coherenceOf(t, s, p, q, slopes[:3])
		// A row that is overwritten leaves the others, also those behind its end.
		for i, row := range slices.Backward(tableAgain) {
			spoil(row, complex(float32(i), -7))
		}
		for i, row := range tableAgain {
			if len(row) != 4 || slices.ContainsFunc(row, func(z complex64) bool { return z != complex(float32(i), -7) }) {
				t.Errorf("the list %d of a table is changed with another one: %v", i, row)
			}
		}
		fringes, _ := impl.FringesOf(s.list, s.weights, p, q)
		spoil(fringes, -7)
		shares, _ := impl.NormWeights(s.weights)
		spoil(shares, -7)
		planes, _ := impl.PlaneSource(side, slopes[:3])
		spoil(planes, impl.Wave{})
		// Errors leave nothing behind either.
		wantMutual(t, light{[]impl.Wave{flat(side, most)}, []float32{1}}, 0, 0, 0, impl.ErrLimit)
		wantTable(t, []impl.Wave{flat(side, most)}, nil, impl.ErrLimit)
		last, lastTable := coherenceOf(t, s, p, q, slopes[:3])
		if !again.isSame(first) || !last.isSame(first) || !slices.EqualFunc(table, lastTable, slices.Equal) {
			t.Errorf("the results of the side %d are changed", side)
		}
		if !slices.Equal(whole.list, kept.list) || !slices.Equal(whole.weights, kept.weights) {
			t.Errorf("the arguments of the side %d are changed", side)
		}
		if !slices.Equal(slope, []int64{3, -5, 7, 9}) || !slices.Equal(slopes[3], []int64{2, 2}) {
			t.Errorf("the slopes %v and %v are changed", slope, slopes)
		}
	}
}
