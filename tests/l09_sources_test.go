package tests

import (
	"math"
	"slices"
	"testing"

	"loop.example/g01225/impl"
)

// wantSource wants that lists are a source, or that they are none.
func wantSource(t *testing.T, list []impl.Wave, weights []float32, want bool) {
	t.Helper()
	if got := impl.IsSource(list, weights); got != want {
		t.Errorf("IsSource(%v, %v) = %t", list, weights, got)
	}
}

// wantPlanes compares the plane waves of slopes with a list and a code.
func wantPlanes(t *testing.T, n int64, slopes [][]int64, want []impl.Wave, wantCode int64) {
	t.Helper()
	if list, code := impl.PlaneSource(n, slopes); !slices.Equal(list, want) || code != wantCode {
		t.Errorf("PlaneSource(%d, %v) = %v, %d; want %v, %d", n, slopes, list, code, want, wantCode)
	}
}

// wantTable compares the table of a list with a table and a code.
func wantTable(t *testing.T, list []impl.Wave, want [][]complex64, wantCode int64) {
	t.Helper()
	if table, code := impl.InnerTable(list); !slices.EqualFunc(table, want, slices.Equal) || code != wantCode {
		t.Errorf("InnerTable(%v) = %v, %d; want %v, %d", list, table, code, want, wantCode)
	}
}

// wantShares compares normed weights with a list and a code.
func wantShares(t *testing.T, weights, want []float32, wantCode int64) {
	t.Helper()
	if shares, code := impl.NormWeights(weights); !slices.Equal(shares, want) || code != wantCode {
		t.Errorf("NormWeights(%v) = %v, %d; want %v, %d", weights, shares, code, want, wantCode)
	}
}

func TestMaxWaves(t *testing.T) {
	if impl.MaxWaves != 16 {
		t.Errorf("MaxWaves = %d", impl.MaxWaves)
	}
}

func TestSourcesOfAllLengths(t *testing.T) {
	for _, side := range sides {
		for waves := range 20 {
			for weights := range 20 {
				list, numbers := slices.Repeat([]impl.Wave{flat(side, most)}, waves), slices.Repeat([]float32{most}, weights)
				wantSource(t, list, numbers, waves == weights && waves >= 1 && waves <= 16)
			}
		}
		wantSource(t, nil, []float32{1}, false)
		wantSource(t, []impl.Wave{flat(side, 1)}, nil, false)
	}
	wantSource(t, nil, nil, false)
	wantSource(t, []impl.Wave{}, []float32{}, false)
	// There is no end to lists that are none.
	wantSource(t, make([]impl.Wave, 300), make([]float32, 300), false)
	wantSource(t, slices.Repeat([]impl.Wave{flat(1, 1)}, 300), make([]float32, 300), false)
}

func TestSourcesOfAllNumbers(t *testing.T) {
	for _, side := range sides {
		for _, count := range []int{1, 2, 3, 16} {
			for place := range count {
				list, weights := slices.Repeat([]impl.Wave{flat(side, 1i)}, count), slices.Repeat([]float32{1}, count)
				for _, weight := range []float32{0, zeroBelow, least, 0.3, 1, most} {
					weights[place] = weight
					wantSource(t, list, weights, true)
				}
				for _, weight := range []float32{-least, -1, -most, inf, -inf, nan, -nan} {
					weights[place] = weight
					wantSource(t, list, weights, false)
				}
				weights[place] = 2
				for _, bad := range noWaves() {
					list[place] = bad
					wantSource(t, list, weights, false)
				}
				for _, other := range sides {
					list[place] = flat(other, minusZero)
					wantSource(t, list, weights, other == side || count == 1)
				}
			}
		}
	}
}

// exactPlane returns a plane wave.
func exactPlane(n, u, v int64) impl.Wave {
	w := impl.Wave{Side: n}
	for y := range n {
		for x := range n {
			w.Cells[n*y+x] = phaseAt((u*x + v*y) * 64 / n)
		}
	}
	return w
}

func TestPlaneSources(t *testing.T) {
	n := numbers{420}
	for _, side := range sides {
		for count := 1; count <= 16; count++ {
			slopes, want := [][]int64{}, []impl.Wave{}
			for range count {
				u, v := int64(n.bits()%129)-64, int64(n.bits()%129)-64
				slopes, want = append(slopes, []int64{u, v}), append(want, exactPlane(side, u, v))
			}
			wantPlanes(t, side, slopes, want, impl.ErrNone)
			wantSource(t, want, slices.Repeat([]float32{1}, count), true)
		}
		for _, u := range []int64{-64, 64} {
			wantPlanes(t, side, [][]int64{{u, 1}, {1, u}}, []impl.Wave{exactPlane(side, 0, 1), exactPlane(side, 1, 0)}, impl.ErrNone)
		}
		// The first number is that of the columns.
		wantPlanes(t, side, [][]int64{{1, 0}, {0, 1}, {1, 0}}, []impl.Wave{exactPlane(side, 1, 0), exactPlane(side, 0, 1), exactPlane(side, 1, 0)}, impl.ErrNone)
	}
	wantPlanes(t, 2, [][]int64{{1, 0}, {0, 1}}, []impl.Wave{waveOf(2, 1, -1, 1, -1), waveOf(2, 1, 1, -1, -1)}, impl.ErrNone)
}

func TestPlaneSourceErrors(t *testing.T) {
	good := []int64{1, 2}
	for _, side := range append(noSides, sides...) {
		want := int64(impl.ErrRange)
		isSide := slices.Contains(sides, side)
		for _, slopes := range [][][]int64{nil, {}, slices.Repeat([][]int64{good}, 17), slices.Repeat([][]int64{good}, 100)} {
			wantPlanes(t, side, slopes, nil, want)
		}
		for _, count := range []int{1, 3, 16} {
			slopes := slices.Repeat([][]int64{good}, count)
			if _, code := impl.PlaneSource(side, slopes); (code == impl.ErrNone) != isSide || code != impl.ErrNone && code != want {
				t.Errorf("PlaneSource(%d, %v): code %d", side, slopes, code)
			}
			for _, place := range []int{0, count / 2, count - 1} {
				bad := [][]int64{nil, {}, {1}, {1, 2, 3}, {1, 2, 3, 4}, {0, 0, 0}, good[:1]}
				for _, k := range append(outside(-64, 64), -65, 65) {
					bad = append(bad, []int64{k, 0}, []int64{0, k}, []int64{k, k})
				}
				for _, slope := range bad {
					list := slices.Clone(slopes)
					list[place] = slope
					wantPlanes(t, side, list, nil, want)
				}
			}
		}
	}
}

func TestTablesExactly(t *testing.T) {
	n, codes := numbers{421}, map[int64]int{}
	for _, r := range append(ranges, [2]int{61, 63}, [2]int{-76, -73}) {
		for _, side := range sides {
			for _, count := range []int{1, 2, 3} {
				list, c := n.light(side, count, [4]int{r[0], r[1], 0, 1}).list, calculation{}
				want, code := c.table(list)
				wantTable(t, list, want, code)
				codes[code]++
			}
		}
	}
	for _, side := range []int64{1, 2, 4} {
		list, c := n.light(side, 16, lightRanges[0]).list, calculation{}
		want, code := c.table(list)
		wantTable(t, list, want, code)
		codes[code]++
	}
	if codes[impl.ErrNone] < 50 || codes[impl.ErrLimit] < 15 {
		t.Errorf("codes of tables: %v", codes)
	}
}

func TestTablesByHand(t *testing.T) {
	for _, side := range sides {
		cells := float32(side * side)
		wantTable(t, []impl.Wave{flat(side, 2i)}, [][]complex64{{complex(4*cells, 0)}}, impl.ErrNone)
		wantTable(t, []impl.Wave{flat(side, 0)}, [][]complex64{{0}}, impl.ErrNone)
		// One list of 16 for each of 16 waves; the conjugate is that of the wave of the list.
		list, want := []impl.Wave{}, [][]complex64{}
		for i := range 16 {
			list = append(list, flat(side, complex(1, float32(i))))
			var row []complex64
			for j := range 16 {
				row = append(row, complex(cells*float32(1+i*j), cells*float32(j-i)))
			}
			want = append(want, row)
		}
		wantTable(t, list, want, impl.ErrNone)
	}
	wantTable(t, []impl.Wave{waveOf(2, 1, 1i), waveOf(2, 1i, 2)}, [][]complex64{{2, -1i}, {1i, 5}}, impl.ErrNone)
	// The products are added in the order of the cells.
	wantTable(t, []impl.Wave{waveOf(2, 1<<24, 1, 1, 1), flat(2, 1), waveOf(2, 1, 1, 1, 1<<24)}, [][]complex64{
		{1 << 48, 1 << 24, 1 << 25}, {1 << 24, 4, 1<<24 + 4}, {1 << 25, 1<<24 + 4, 1 << 48},
	}, impl.ErrNone)
}

// Planes with different slopes are orthogonal.
func TestTablesOfPlanes(t *testing.T) {
	for _, side := range []int64{1, 2, 4} {
		var slopes [][]int64
		for v := range side {
			for u := range side {
				slopes = append(slopes, []int64{u, v})
			}
		}
		list, code := impl.PlaneSource(side, slopes)
		wantNone(t, "PlaneSource", code)
		var want [][]complex64
		for i := range slopes {
			row := make([]complex64, len(slopes))
			row[i] = complex(float32(side*side), 0)
			want = append(want, row)
		}
		wantTable(t, list, want, impl.ErrNone)
	}
}

// One inner product that is not finite, at whatever place of the table, leaves no table.
func TestLimitsOfTables(t *testing.T) {
	for _, side := range sides {
		for _, count := range []int{1, 2, 16} {
			for place := range count {
				list := slices.Repeat([]impl.Wave{flat(side, 0)}, count)
				list[place].Cells[side*side-1] = 0x1p64
				wantTable(t, list, nil, impl.ErrLimit)
				list[place].Cells[side*side-1] = complex(0, -0x1.fffffep63)
				if _, code := impl.InnerTable(list); code != impl.ErrNone {
					t.Errorf("the table of %v: %d", list, code)
				}
			}
		}
	}
	// What is too great on the way, or in one of the parts, or only for two different waves.
	wantTable(t, []impl.Wave{flat(2, 0x1p63)}, nil, impl.ErrLimit)
	wantTable(t, []impl.Wave{flat(2, 0x1.8p62)}, [][]complex64{{0x1.2p127}}, impl.ErrNone)
	wantTable(t, []impl.Wave{waveOf(2, complex(0, 0x1p64)), flat(2, 0)}, nil, impl.ErrLimit)
}

func TestTableErrors(t *testing.T) {
	for _, side := range sides {
		wantTable(t, slices.Repeat([]impl.Wave{flat(side, most)}, 17), nil, impl.ErrRange)
		wantTable(t, slices.Repeat([]impl.Wave{flat(side, 1)}, 17), nil, impl.ErrRange)
		for _, count := range []int{1, 2, 3, 16, 17, 40} {
			for _, place := range []int{0, count / 2, count - 1} {
				for _, bad := range noWaves() {
					list := slices.Repeat([]impl.Wave{flat(side, most)}, count)
					list[count-1-place] = flat(8/side, most)
					list[place] = bad
					wantTable(t, list, nil, impl.ErrInvalid)
				}
				for _, other := range sides {
					list := slices.Repeat([]impl.Wave{flat(side, most)}, count)
					list[place] = flat(other, most)
					want := int64(impl.ErrRange)
					if count == 1 || other == side && count <= 16 {
						want = impl.ErrLimit
					}
					wantTable(t, list, nil, want)
				}
			}
		}
	}
	wantTable(t, nil, nil, impl.ErrRange)
	wantTable(t, []impl.Wave{}, nil, impl.ErrRange)
}

func TestNormedWeightsExactly(t *testing.T) {
	n, codes := numbers{422}, map[int64]int{}
	for _, r := range [][2]int{{-3, 3}, {-30, 30}, {-149, -140}, {-149, -120}, {-149, 127}, {118, 126}, {124, 127}, {127, 127}} {
		for count := 1; count <= 16; count++ {
			for range 4 {
				weights, c := n.weighted(count, r[0], r[1]), calculation{}
				want, code := c.shares(weights)
				wantShares(t, weights, want, code)
				codes[code]++
			}
		}
	}
	if codes[impl.ErrNone] < 300 || codes[impl.ErrLimit] < 50 || codes[impl.ErrState] < 1 {
		t.Errorf("codes of normed weights: %v", codes)
	}
}

func TestNormedWeightsByHand(t *testing.T) {
	none := int64(impl.ErrNone)
	wantShares(t, []float32{3, 1}, []float32{0.75, 0.25}, none)
	wantShares(t, []float32{1, 3}, []float32{0.25, 0.75}, none)
	wantShares(t, []float32{0, zeroBelow, 5, 0}, []float32{0, 0, 1, 0}, none)
	wantShares(t, []float32{zeroBelow, 2, 6}, []float32{0, 0.25, 0.75}, none)
	wantShares(t, slices.Repeat([]float32{7}, 16), slices.Repeat([]float32{0.0625}, 16), none)
	wantShares(t, []float32{1, 2}, []float32{0x1.555556p-2, 0x1.555556p-1}, none)
	for _, weight := range []float32{least, 3 * least, 0x1p-126, 0.3, 1, most} {
		wantShares(t, []float32{weight}, []float32{1}, none)
		wantShares(t, []float32{0, weight}, []float32{0, 1}, none)
	}
	// The sum is taken from the left.
	wantShares(t, []float32{1 << 24, 1, 1}, []float32{1, 0x1p-24, 0x1p-24}, none)
	wantShares(t, []float32{1, 1, 1 << 24}, []float32{exactQuotient(1, 1<<24+2), exactQuotient(1, 1<<24+2), exactQuotient(1<<24, 1<<24+2)}, none)
	// Subnormal weights are weights as others are, but quotients by great ones are 0.
	wantShares(t, []float32{least, least}, []float32{0.5, 0.5}, none)
	wantShares(t, []float32{3 * least, least}, []float32{0.75, 0.25}, none)
	wantShares(t, []float32{least, most}, []float32{0, 1}, none)
	wantShares(t, []float32{0x1p-126, 0x1p-126 - least}, []float32{exactQuotient(0x1p-126, 0x1p-125-least), exactQuotient(0x1p-126-least, 0x1p-125-least)}, none)
	wantShares(t, []float32{0x1p-149, 1}, []float32{least, 1}, none)
	wantShares(t, []float32{0x1p-149, 2}, []float32{0, 1}, none)
}

func TestLimitsOfNormedWeights(t *testing.T) {
	for count := range 16 {
		zeros := make([]float32, count+1)
		wantShares(t, zeros, nil, impl.ErrState)
		for i := range zeros {
			zeros[i] = zeroBelow
		}
		wantShares(t, zeros, nil, impl.ErrState)
		// The last one makes the sum too great.
		if count > 0 {
			zeros[0], zeros[count] = most, 0x1p103
			wantShares(t, zeros, nil, impl.ErrLimit)
			zeros[0], zeros[count] = 0x1p103, most
			wantShares(t, zeros, nil, impl.ErrLimit)
			zeros[0] = math.Nextafter32(0x1p103, 0)
			shares, code := impl.NormWeights(zeros)
			if len(shares) != count+1 || shares[0] != 0x1p-25 || shares[count] != 1 || code != impl.ErrNone {
				t.Errorf("NormWeights(%v) = %v, %d", zeros, shares, code)
			}
		}
	}
	wantShares(t, []float32{most, most}, nil, impl.ErrLimit)
	wantShares(t, slices.Repeat([]float32{0x1p124}, 16), nil, impl.ErrLimit)
	wantShares(t, slices.Repeat([]float32{0x1p123}, 16), slices.Repeat([]float32{0.0625}, 16), impl.ErrNone)
	// 2^102 is lost each time, but twice ahead it is too much.
	wantShares(t, []float32{0x1p102, 0x1p102, most}, nil, impl.ErrLimit)
	wantShares(t, []float32{most, 0x1p102, 0x1p102}, []float32{1, exactQuotient(0x1p102, most), exactQuotient(0x1p102, most)}, impl.ErrNone)
}

func TestNormWeightsErrors(t *testing.T) {
	wantShares(t, nil, nil, impl.ErrRange)
	wantShares(t, []float32{}, nil, impl.ErrRange)
	for _, weight := range []float32{0, 1, most} {
		for _, count := range []int{17, 18, 100} {
			wantShares(t, slices.Repeat([]float32{weight}, count), nil, impl.ErrRange)
		}
		for _, count := range []int{1, 2, 3, 16, 17} {
			for place := range count {
				weights := slices.Repeat([]float32{weight}, count)
				for _, bad := range []float32{-least, -1, -most} {
					weights[place] = bad
					wantShares(t, weights, nil, impl.ErrRange)
				}
				for _, bad := range []float32{nan, -nan, inf, -inf} {
					weights[place] = bad
					wantShares(t, weights, nil, impl.ErrInvalid)
					if count > 1 {
						weights[(place+1)%count] = -1
						wantShares(t, weights, nil, impl.ErrInvalid)
						weights[(place+1)%count] = weight
					}
				}
			}
		}
	}
	// A weight less than 0 comes before a sum that is 0 or not finite.
	wantShares(t, []float32{1, -1}, nil, impl.ErrRange)
	wantShares(t, []float32{most, most, -1}, nil, impl.ErrRange)
}
