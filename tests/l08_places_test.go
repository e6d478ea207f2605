package tests

import (
	"slices"
	"testing"

	"loop.example/g01225/impl"
)

// wantCoverage compares a coverage with a list and a code.
func wantCoverage(t *testing.T, n, m int64, places []impl.Place, want []int64, wantCode int64) {
	t.Helper()
	if got, code := impl.CoverageOf(n, m, places); !slices.Equal(got, want) || code != wantCode {
		t.Errorf("CoverageOf(%d, %d, %v) = %v, %d; want %v, %d", n, m, places, got, code, want, wantCode)
	}
}

// wantGrid compares a grid of places with a list and a code.
func wantGrid(t *testing.T, n, step int64, want []impl.Place, wantCode int64) {
	t.Helper()
	if got, code := impl.GridOfPlaces(n, step); !slices.Equal(got, want) || code != wantCode {
		t.Errorf("GridOfPlaces(%d, %d) = %v, %d; want %v, %d", n, step, got, code, want, wantCode)
	}
}

func TestCoverageOf(t *testing.T) {
	n := numbers{380}
	forSides(func(side, m int64) {
		for count := range 21 {
			places := n.places(side, count)
			wantCoverage(t, side, m, places, exactCoverage(side, m, places), impl.ErrNone)
		}
		for _, at := range allPlaces(side) {
			for _, count := range []int{1, 2, 20} {
				places := slices.Repeat([]impl.Place{at}, count)
				wantCoverage(t, side, m, places, exactCoverage(side, m, places), impl.ErrNone)
			}
		}
		for _, places := range [][]impl.Place{nil, {}} {
			wantCoverage(t, side, m, places, make([]int64, side*side), impl.ErrNone)
		}
	})
}

func TestCoveragesByHand(t *testing.T) {
	wantCoverage(t, 2, 1, []impl.Place{{Row: 1, Column: 1}}, []int64{0, 0, 0, 1}, impl.ErrNone)
	wantCoverage(t, 2, 1, []impl.Place{{Row: 1}, {Column: 1}, {Row: 1}}, []int64{0, 1, 2, 0}, impl.ErrNone)
	wantCoverage(t, 1, 1, []impl.Place{{}, {}, {}}, []int64{3}, impl.ErrNone)
	wantCoverage(t, 2, 2, []impl.Place{{}, {Row: 1}, {Column: 1}}, []int64{3, 3, 3, 3}, impl.ErrNone)
	overlapping := []impl.Place{{Row: 1, Column: 1}, {Row: 1, Column: 2}, {Row: 2, Column: 1}, {Row: 3, Column: 3}}
	wantCoverage(t, 4, 2, overlapping, []int64{
		1, 0, 0, 1,
		0, 1, 2, 1,
		0, 2, 3, 1,
		1, 1, 1, 1,
	}, impl.ErrNone)
	wantCoverage(t, 4, 2, []impl.Place{{Row: 3}, {Column: 3}, {Row: 3}}, []int64{
		3, 2, 0, 1,
		1, 0, 0, 1,
		0, 0, 0, 0,
		2, 2, 0, 0,
	}, impl.ErrNone)
	// A patch is a square of rows and columns, not a run of cells.
	want := make([]int64, 64)
	for _, cell := range []int{55, 48, 49, 50, 63, 56, 57, 58, 7, 0, 1, 2, 15, 8, 9, 10} {
		want[cell] = 1
	}
	wantCoverage(t, 8, 4, []impl.Place{{Row: 6, Column: 7}}, want, impl.ErrNone)
}

func TestErrorsOfCoverageOf(t *testing.T) {
	for _, n := range append([]int64{1, 2, 4, 8}, noSides...) {
		for _, m := range append([]int64{1, 2, 4, 8}, noSides...) {
			for _, places := range [][]impl.Place{nil, {{}}, make([]impl.Place, 20)} {
				if slices.Contains(noSides, n) || slices.Contains(noSides, m) || m > n {
					wantCoverage(t, n, m, places, nil, impl.ErrRange)
				} else {
					_, code := impl.CoverageOf(n, m, places)
					wantNone(t, "CoverageOf", code)
				}
			}
		}
	}
	forSides(func(n, m int64) {
		for _, count := range []int{21, 22, 64, 276} {
			wantCoverage(t, n, m, make([]impl.Place, count), nil, impl.ErrRange)
		}
		for _, k := range outside(0, n-1) {
			for _, count := range []int{1, 2, 20} {
				for place := range count {
					list := make([]impl.Place, count)
					list[place].Row = k
					wantCoverage(t, n, m, list, nil, impl.ErrRange)
					list[place] = impl.Place{Column: k}
					wantCoverage(t, n, m, list, nil, impl.ErrRange)
					list[place] = impl.Place{Row: n - 1, Column: n - 1}
					wantCoverage(t, n, m, list, exactCoverage(n, m, list), impl.ErrNone)
				}
			}
		}
	})
}

func TestGridOfPlaces(t *testing.T) {
	wantGrid(t, 4, 2, []impl.Place{{}, {Column: 2}, {Row: 2}, {Row: 2, Column: 2}}, impl.ErrNone)
	wantGrid(t, 2, 1, []impl.Place{{}, {Column: 1}, {Row: 1}, {Row: 1, Column: 1}}, impl.ErrNone)
	wantGrid(t, 4, 3, []impl.Place{{}, {Column: 3}, {Row: 3}, {Row: 3, Column: 3}}, impl.ErrNone)
	wantGrid(t, 8, 5, []impl.Place{{}, {Column: 5}, {Row: 5}, {Row: 5, Column: 5}}, impl.ErrNone)
	wantGrid(t, 8, 3, []impl.Place{
		{}, {Column: 3}, {Column: 6}, {Row: 3}, {Row: 3, Column: 3}, {Row: 3, Column: 6},
		{Row: 6}, {Row: 6, Column: 3}, {Row: 6, Column: 6},
	}, impl.ErrNone)
	wantGrid(t, 4, 1, allPlaces(4), impl.ErrNone)
	wantGrid(t, 8, 1, nil, impl.ErrRange)
	for _, n := range sides {
		for step := int64(1); step <= 9; step++ {
			var want []impl.Place
			for row := int64(0); row < n; row += step {
				for column := int64(0); column < n; column += step {
					want = append(want, impl.Place{Row: row, Column: column})
				}
			}
			// There are 1, 4, 9, 16 or 64 places, never 20.
			if len(want) > 20 {
				wantGrid(t, n, step, nil, impl.ErrRange)
			} else {
				wantGrid(t, n, step, want, impl.ErrNone)
			}
		}
		for _, step := range []int64{n, n + 1, 16, 64, 1 << 32, 1<<32 + 1, 1 << 62, 1<<63 - 2, 1<<63 - 1} {
			wantGrid(t, n, step, []impl.Place{{}}, impl.ErrNone)
		}
		for _, step := range []int64{0, -1, -2, -n, -64, -1 << 32, 1 - 1<<63, -1 << 63} {
			wantGrid(t, n, step, nil, impl.ErrRange)
		}
	}
	for _, n := range noSides {
		for _, step := range []int64{1, 2, 8, 0, -1, 1<<63 - 1, -1 << 63} {
			wantGrid(t, n, step, nil, impl.ErrRange)
		}
	}
}

// Places of a grid with the side of the probe as step cover each cell once.
func TestGridsCoverObjects(t *testing.T) {
	forSides(func(n, m int64) {
		grid, code := impl.GridOfPlaces(n, m)
		if code != impl.ErrNone {
			return
		}
		wantCoverage(t, n, m, grid, slices.Repeat([]int64{1}, int(n*n)), impl.ErrNone)
	})
}
