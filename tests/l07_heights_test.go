package tests

import (
	"math"
	"slices"
	"testing"

	"loop.example/g01225/impl"
)

// noHeights are whole numbers that are no heights.
var noHeights = append(outside(-100000, 100000), math.MinInt64+100000, math.MaxInt64-100000)

// A heightMap is a side with heights, which may be no height map.
type heightMap struct {
	side    int64
	heights []int64
}

// noMaps returns what is no height map: sides that are none, also with as many heights as they
// would have, lists that are too short or too long, and numbers that are no heights. All other
// heights are equal.
func noMaps(h int64) []heightMap {
	var list []heightMap
	add := func(side, length int64) {
		list = append(list, heightMap{side, slices.Repeat([]int64{h}, int(length))})
	}
	for _, side := range noSides {
		list = append(list, heightMap{side, nil})
		add(side, 1)
		add(side, 64)
		if side > -16 && side <= 16 {
			add(side, side*side)
		}
	}
	for _, side := range sides {
		cells := side * side
		list = append(list, heightMap{side, nil})
		for _, length := range []int64{0, cells - 1, cells + 1, side, 2 * cells, 64, 65, 128} {
			if length != cells {
				add(side, length)
			}
		}
		for place := range cells {
			for _, other := range noHeights {
				list = append(list, heightMap{side, heightsBut(side, h, place, other)})
			}
		}
	}
	return list
}

// greatMaps returns height maps with the least and the greatest height at each place.
func greatMaps() []heightMap {
	var list []heightMap
	for _, side := range sides {
		for place := range side * side {
			for _, h := range []int64{-100000, -99999, -64, -1, 64, 99999, 100000} {
				list = append(list, heightMap{side, heightsBut(side, 63, place, h)})
			}
		}
	}
	return list
}

// wantHeights compares a list that a function makes of a height map with a list and a code.
func wantHeights(t *testing.T, name string, f func(n int64, heights []int64) ([]int64, int64), m heightMap, want []int64, wantCode int64) {
	t.Helper()
	list, code := f(m.side, m.heights)
	if wantCode != impl.ErrNone {
		want = nil
	}
	if !slices.Equal(list, want) || code != wantCode {
		t.Errorf("%s(%d, %v) = %v, %d; want %v, %d", name, m.side, m.heights, list, code, want, wantCode)
	}
}

// wantWaveOfHeights compares the wave of a height map with a wave and a code.
func wantWaveOfHeights(t *testing.T, m heightMap, want impl.Wave, wantCode int64) {
	t.Helper()
	w, code := impl.WaveOfHeights(m.side, m.heights)
	wantWave(t, "WaveOfHeights", w, code, want, wantCode)
}

// wantDifferenceOfHeights compares a wrapped difference with a number and a code.
func wantDifferenceOfHeights(t *testing.T, h, k, want, wantCode int64) {
	t.Helper()
	if d, code := impl.WrappedDifference(h, k); d != want || code != wantCode {
		t.Errorf("WrappedDifference(%d, %d) = %d, %d; want %d, %d", h, k, d, code, want, wantCode)
	}
}

func TestIsHeightMap(t *testing.T) {
	n := numbers{320}
	for _, side := range sides {
		for range 8 {
			if h := n.heights(side, -100000, 100000); !impl.IsHeightMap(side, h) {
				t.Errorf("IsHeightMap refuses %v", h)
			}
		}
		for _, h := range []int64{-100000, -1, 0, 63, 64, 100000} {
			if !impl.IsHeightMap(side, heightsBut(side, h, 0, h)) {
				t.Errorf("IsHeightMap refuses the heights %d", h)
			}
		}
	}
	for _, m := range greatMaps() {
		if !impl.IsHeightMap(m.side, m.heights) {
			t.Errorf("IsHeightMap refuses %v", m)
		}
	}
	for _, m := range slices.Concat(noMaps(0), noMaps(-1)) {
		if impl.IsHeightMap(m.side, m.heights) {
			t.Errorf("IsHeightMap takes %v", m)
		}
	}
}

// No height map comes before a map that is not wrapped.
func TestNoHeightMaps(t *testing.T) {
	for _, m := range slices.Concat(noMaps(1), noMaps(-1)) {
		wantHeights(t, "WrapHeights", impl.WrapHeights, m, nil, impl.ErrInvalid)
		wantHeights(t, "ResiduesOf", impl.ResiduesOf, m, nil, impl.ErrInvalid)
		wantHeights(t, "UnwrapRows", impl.UnwrapRows, m, nil, impl.ErrInvalid)
		wantHeights(t, "SlopesOf", impl.SlopesOf, m, nil, impl.ErrInvalid)
		wantWaveOfHeights(t, m, impl.Wave{}, impl.ErrInvalid)
	}
}

func TestNotWrappedMaps(t *testing.T) {
	for _, m := range greatMaps() {
		wantHeights(t, "ResiduesOf", impl.ResiduesOf, m, nil, impl.ErrState)
		wantHeights(t, "UnwrapRows", impl.UnwrapRows, m, nil, impl.ErrState)
	}
	for _, side := range sides {
		for place := range side * side {
			for _, h := range []int64{0, 1, 31, 32, 62, 63} {
				m := heightMap{side, heightsBut(side, 63-h, place, h)}
				wantHeights(t, "ResiduesOf", impl.ResiduesOf, m, residues(side, m.heights), impl.ErrNone)
				wantHeights(t, "UnwrapRows", impl.UnwrapRows, m, alongRows(side, m.heights), impl.ErrNone)
			}
		}
	}
}

func TestWrapHeights(t *testing.T) {
	n := numbers{321}
	for _, side := range sides {
		for range 12 {
			h := n.heights(side, -100000, 100000)
			wantHeights(t, "WrapHeights", impl.WrapHeights, heightMap{side, h}, wrapAll(h), impl.ErrNone)
			h = n.heights(side, -130, 130)
			wantHeights(t, "WrapHeights", impl.WrapHeights, heightMap{side, h}, wrapAll(h), impl.ErrNone)
		}
	}
	for _, m := range greatMaps() {
		wantHeights(t, "WrapHeights", impl.WrapHeights, m, wrapAll(m.heights), impl.ErrNone)
	}
	for _, known := range [][2]int64{
		{-100000, 32}, {100000, 32}, {-65, 63}, {-64, 0}, {-63, 1}, {-1, 63}, {0, 0}, {63, 63}, {64, 0}, {127, 63}, {128, 0},
	} {
		wantHeights(t, "WrapHeights", impl.WrapHeights, heightMap{1, known[:1]}, known[1:], impl.ErrNone)
	}
	m := heightMap{2, []int64{64, -1, 5, 200}}
	wantHeights(t, "WrapHeights", impl.WrapHeights, m, []int64{0, 63, 5, 8}, impl.ErrNone)
}

func TestWrappedDifference(t *testing.T) {
	wantDifferenceOfHeights(t, 60, 2, 6, impl.ErrNone)
	wantDifferenceOfHeights(t, 2, 60, -6, impl.ErrNone)
	for d := int64(-32); d <= 31; d++ {
		for _, h := range []int64{-99904, -64, -63, -1, 0, 1, 63, 99904} {
			wantDifferenceOfHeights(t, h, h+d, d, impl.ErrNone)
			wantDifferenceOfHeights(t, h, h+d-64, d, impl.ErrNone)
			wantDifferenceOfHeights(t, h, h+d+64, d, impl.ErrNone)
		}
	}
	wantDifferenceOfHeights(t, 0, 32, -32, impl.ErrNone)
	wantDifferenceOfHeights(t, 32, 0, -32, impl.ErrNone)
	wantDifferenceOfHeights(t, 0, -33, 31, impl.ErrNone)
	wantDifferenceOfHeights(t, -100000, 100000, 0, impl.ErrNone)
	wantDifferenceOfHeights(t, 100000, -100000, 0, impl.ErrNone)
	wantDifferenceOfHeights(t, 100000, -99999, 1, impl.ErrNone)
	// All pairs of remainders, of heights above, about and below 0.
	for h := range int64(64) {
		for k := range int64(64) {
			d := difference(h, k)
			for _, turns := range []int64{-1562, -2, -1, 0, 1, 1561} {
				wantDifferenceOfHeights(t, h+64*turns, k, d, impl.ErrNone)
				wantDifferenceOfHeights(t, h, k+64*turns, d, impl.ErrNone)
				wantDifferenceOfHeights(t, h+64*turns, k-64*turns-64, d, impl.ErrNone)
			}
		}
	}
}

func TestErrorsOfWrappedDifference(t *testing.T) {
	for _, bad := range noHeights {
		for _, h := range append([]int64{-100000, 0, 100000}, noHeights...) {
			wantDifferenceOfHeights(t, bad, h, 0, impl.ErrRange)
			wantDifferenceOfHeights(t, h, bad, 0, impl.ErrRange)
		}
	}
	for _, h := range []int64{-100000, 100000} {
		for _, k := range []int64{-100000, 100000} {
			wantDifferenceOfHeights(t, h, k, 0, impl.ErrNone)
		}
	}
}

func TestSlopesOf(t *testing.T) {
	n := numbers{322}
	for _, side := range sides {
		for round := range 40 {
			high := []int64{1, 3, 10, 100000}[round%4]
			h := n.heights(side, -high, high)
			wantHeights(t, "SlopesOf", impl.SlopesOf, heightMap{side, h}, slopes(side, h), impl.ErrNone)
		}
		for _, u := range []int64{-1000, -32, -1, 0, 2, 31, 4000} {
			for _, v := range []int64{-4000, -31, 0, 1, 1000} {
				want := []int64{u, v}
				if side == 1 {
					want = []int64{0, 0}
				}
				wantHeights(t, "SlopesOf", impl.SlopesOf, heightMap{side, plane(side, 7, u, v)}, want, impl.ErrNone)
			}
		}
	}
	for _, m := range greatMaps() {
		wantHeights(t, "SlopesOf", impl.SlopesOf, m, slopes(m.side, m.heights), impl.ErrNone)
	}
}

func TestSlopesByHand(t *testing.T) {
	for _, known := range []struct {
		heights []int64
		slopes  []int64
	}{
		{[]int64{-100000}, []int64{0, 0}},
		{[]int64{0, 3, 10, 13}, []int64{3, 10}},
		// Of equally frequent numbers the least one counts, also below 0, wherever it stands.
		{[]int64{0, 5, 0, -2}, []int64{-2, -7}},
		{[]int64{0, -2, 0, 5}, []int64{-2, 0}},
		{[]int64{0, 5, 7, 20}, []int64{5, 7}},
		{[]int64{0, 13, 7, 12}, []int64{5, -1}},
		// Differences are not wrapped.
		{[]int64{0, 63, 60, 200}, []int64{63, 60}},
		{[]int64{-100000, 100000, 100000, -100000}, []int64{-200000, -200000}},
		// In the rows there are 9, 2 and 1 four times each, in the columns 8 four times.
		{[]int64{0, 9, 18, 20, 0, 1, 2, 4, 0, 9, 10, 11, 8, 17, 19, 21}, []int64{1, 8}},
		// The most frequent number counts, though there are lesser ones.
		{[]int64{0, -9, -6, -3, 100, 91, 94, 97, 200, 191, 0, 3, 300, 100, 103, 106}, []int64{3, 100}},
		// The end of a row has no neighbour at the beginning of the next one.
		{[]int64{0, 1, 3, 7, 9, 10, 12, 16, 18, 19, 21, 25, 27, 28, 30, 34}, []int64{1, 9}},
	} {
		side := map[int]int64{1: 1, 4: 2, 16: 4}[len(known.heights)]
		wantHeights(t, "SlopesOf", impl.SlopesOf, heightMap{side, known.heights}, known.slopes, impl.ErrNone)
	}
}

func TestWaveOfHeights(t *testing.T) {
	n := numbers{323}
	for _, side := range sides {
		for range 12 {
			h := n.heights(side, -100000, 100000)
			wantWaveOfHeights(t, heightMap{side, h}, phasesOf(side, h), impl.ErrNone)
		}
		for _, u := range []int64{-40, 0, 3, 64} {
			h := plane(side, -70, u, 65)
			wantWaveOfHeights(t, heightMap{side, h}, phasesOf(side, h), impl.ErrNone)
		}
		h := heightsBut(side, -16, side*side-1, 100000-32)
		wantWaveOfHeights(t, heightMap{side, h}, waveBut(side, -1i, side*side-1, 1), impl.ErrNone)
	}
	for _, m := range greatMaps() {
		wantWaveOfHeights(t, m, phasesOf(m.side, m.heights), impl.ErrNone)
	}
	wantWaveOfHeights(t, heightMap{2, []int64{0, 16, -32, 112}}, waveOf(2, 1, 1i, -1, -1i), impl.ErrNone)
	w, code := impl.WaveOfHeights(4, plane(4, 5, 3, 7))
	if code != impl.ErrNone || slices.ContainsFunc(w.Cells[16:], func(z complex64) bool { return z != 0 }) {
		t.Errorf("there are further cells: %v, %d", w, code)
	}
}
