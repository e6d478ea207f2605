package tests

import (
	"math"
	"slices"
	"testing"

	"loop.example/g01225/impl"
)

// outside returns numbers just outside a range and far from it.
func outside(low, high int64) []int64 {
	return []int64{
		low - 1, high + 1, low - 64, high + 64, low - 1<<32, high + 1<<32, 1 << 62,
		math.MinInt64, math.MinInt64 + 64, math.MaxInt64 - 63, math.MaxInt64,
	}
}

// noDistances are whole numbers that are no distances.
var noDistances = outside(-64, 64)

// noSides are whole numbers that are no sides.
var noSides = []int64{0, -1, -2, -4, -8, 3, 5, 6, 7, 9, 12, 16, 64, 1<<32 + 8, 1 << 62, math.MinInt64, math.MinInt64 + 8, math.MaxInt64}

// zerosBut returns a list of distances 0 but for one at a place.
func zerosBut(length, place int, d int64) []int64 {
	list := make([]int64, length)
	list[place] = d
	return list
}

// flatsBut returns a list of flat waves of 1 but for one wave at a place.
func flatsBut(length, place int, side int64, w impl.Wave) []impl.Wave {
	list := slices.Repeat([]impl.Wave{flat(side, 1)}, length)
	list[place] = w
	return list
}

// focusingWave returns a wave whose level is finite until it travels -16, or by other turns there.
func focusingWave() impl.Wave { return waveOf(2, -0x1p63i, 0x1p63, 0x1p63, 0x1p63i) }

func TestErrorsOfTransferTable(t *testing.T) {
	for _, side := range sides {
		for _, d := range noDistances {
			w, code := impl.TransferTable(side, d)
			wantNoWave(t, "TransferTable of no distance", w, code, impl.ErrRange)
		}
		for _, d := range []int64{-64, 64} {
			w, code := impl.TransferTable(side, d)
			wantWave(t, "TransferTable", w, code, flat(side, 1), impl.ErrNone)
		}
	}
	for _, side := range noSides {
		for _, d := range append([]int64{-64, 0, 16, 64}, noDistances...) {
			w, code := impl.TransferTable(side, d)
			wantNoWave(t, "TransferTable of no side", w, code, impl.ErrRange)
		}
	}
}

func TestErrorsOfTravelWave(t *testing.T) {
	for _, bad := range noWaves() {
		for _, d := range append([]int64{-64, 0, 64}, noDistances...) {
			w, code := impl.TravelWave(bad, d)
			wantNoWave(t, "TravelWave of no wave", w, code, impl.ErrInvalid)
			wantSame(t, bad, d, false, impl.ErrInvalid)
		}
	}
	for _, side := range sides {
		for _, d := range noDistances {
			for _, z := range []complex64{1, most} {
				w, code := impl.TravelWave(flat(side, z), d)
				wantNoWave(t, "TravelWave of no distance", w, code, impl.ErrRange)
				wantSame(t, flat(side, z), d, false, impl.ErrRange)
			}
		}
		for _, d := range []int64{-64, 64} {
			w, code := impl.TravelWave(flat(side, 1), d)
			wantWave(t, "TravelWave", w, code, flat(side, 1), impl.ErrNone)
			wantSame(t, flat(side, 1), d, true, impl.ErrNone)
		}
	}
}

// What is not finite may arise in the transform, in the products and in the transform back.
func TestLimitsOfTravelWave(t *testing.T) {
	for _, side := range []int64{2, 4, 8} {
		for _, d := range []int64{-64, 0, 16, 64} {
			for _, great := range []impl.Wave{flat(side, most), flat(side, complex(0, -most)), waveOf(side, most)} {
				w, code := impl.TravelWave(great, d)
				wantNoWave(t, "TravelWave of great cells", w, code, impl.ErrLimit)
				wantSame(t, great, d, false, impl.ErrLimit)
			}
		}
	}
	w, code := impl.TravelWave(turningWave(), -8)
	wantNoWave(t, "TravelWave that turns", w, code, impl.ErrLimit)
	wantSame(t, turningWave(), -8, false, impl.ErrLimit)
	wantSame(t, turningWave(), -1, false, impl.ErrNone)
	wantSame(t, turningWave(), 0, true, impl.ErrNone)
}

func TestErrorsOfTravelSteps(t *testing.T) {
	steps := []int64{0, 1, 30, -1, 31, math.MinInt64, math.MaxInt64}
	for _, bad := range noWaves() {
		for _, k := range steps {
			for _, d := range []int64{64, 65, math.MinInt64} {
				w, code := impl.TravelSteps(bad, d, k)
				wantNoWave(t, "TravelSteps of no wave", w, code, impl.ErrInvalid)
			}
		}
	}
	for _, side := range sides {
		great := flat(side, most)
		for _, d := range noDistances {
			for _, k := range steps {
				w, code := impl.TravelSteps(great, d, k)
				wantNoWave(t, "TravelSteps of no distance", w, code, impl.ErrRange)
			}
		}
		for _, k := range outside(0, 30) {
			for _, d := range []int64{-64, 0, 5, 64} {
				w, code := impl.TravelSteps(great, d, k)
				wantNoWave(t, "TravelSteps of too many steps", w, code, impl.ErrRange)
			}
		}
		for _, k := range []int64{0, 1, 30} {
			w, code := impl.TravelSteps(flat(side, 1), -64, k)
			wantWave(t, "TravelSteps", w, code, flat(side, 1), impl.ErrNone)
			w, code = impl.TravelSteps(great, 64, k)
			if k == 0 || side == 1 {
				wantWave(t, "TravelSteps", w, code, great, impl.ErrNone)
			} else {
				wantNoWave(t, "TravelSteps of great cells", w, code, impl.ErrLimit)
			}
		}
	}
}

// wantLayersError wants that ThroughLayers returns a code and no wave.
func wantLayersError(t *testing.T, w impl.Wave, distances []int64, layers []impl.Wave, wantCode int64) {
	t.Helper()
	got, code := impl.ThroughLayers(w, distances, layers)
	wantNoWave(t, "ThroughLayers", got, code, wantCode)
}

// No wave, at any place, comes before all that is not in its range, and what is not finite.
func TestNoWavesAmongLayers(t *testing.T) {
	great := flat(2, most)
	for _, bad := range noWaves() {
		wantLayersError(t, bad, nil, nil, impl.ErrInvalid)
		wantLayersError(t, bad, []int64{65}, nil, impl.ErrInvalid)
		for _, count := range []int{1, 2, 3, 12, 13} {
			lists := [][]int64{nil, make([]int64, count), make([]int64, count+1), zerosBut(count, 0, 65), zerosBut(count, count-1, math.MinInt64)}
			for _, distances := range lists {
				wantLayersError(t, bad, distances, flatsBut(count, 0, 2, great), impl.ErrInvalid)
				wantLayersError(t, bad, distances, flatsBut(count, 0, 8, great), impl.ErrInvalid)
				for _, place := range []int{0, count / 2, count - 1} {
					wantLayersError(t, great, distances, flatsBut(count, place, 2, bad), impl.ErrInvalid)
					wantLayersError(t, great, distances, flatsBut(count, place, 4, bad), impl.ErrInvalid)
				}
			}
		}
	}
}

func TestDifferentSidesOfLayers(t *testing.T) {
	for _, a := range sides {
		for _, b := range sides {
			if a == b {
				continue
			}
			for _, count := range []int{1, 2, 3, 12} {
				distances := make([]int64, count)
				wantLayersError(t, flat(b, most), distances, flatsBut(count, 0, a, flat(a, most)), impl.ErrRange)
				for place := range count {
					wantLayersError(t, flat(a, most), distances, flatsBut(count, place, a, flat(b, 1)), impl.ErrRange)
				}
			}
			got, code := impl.LensTravel(flat(a, most), flat(b, 1), 64)
			wantNoWave(t, "LensTravel of different sides", got, code, impl.ErrRange)
		}
	}
}

func TestListsOfLayersOutOfRange(t *testing.T) {
	for _, side := range sides {
		great := flat(side, most)
		for count := 1; count <= 12; count++ {
			for place := range count {
				for _, d := range noDistances {
					wantLayersError(t, great, zerosBut(count, place, d), flatsBut(count, 0, side, great), impl.ErrRange)
				}
			}
		}
		for _, counts := range [][2]int{{0, 1}, {1, 0}, {1, 2}, {2, 1}, {11, 12}, {12, 11}, {12, 13}, {13, 12}, {13, 13}, {0, 13}, {13, 0}, {40, 40}} {
			distances, layers := make([]int64, counts[0]), slices.Repeat([]impl.Wave{flat(side, 1)}, counts[1])
			wantLayersError(t, great, distances, layers, impl.ErrRange)
			wantLayersError(t, flat(side, 1), distances, layers, impl.ErrRange)
		}
		for _, d := range []int64{-64, 64} {
			for count := range 13 {
				distances, layers := slices.Repeat([]int64{d}, count), slices.Repeat([]impl.Wave{flat(side, 1)}, count)
				w, code := impl.ThroughLayers(flat(side, 2i), distances, layers)
				wantWave(t, "ThroughLayers", w, code, flat(side, 2i), impl.ErrNone)
			}
		}
	}
}

// What is not finite may arise at the first distance or layer, or at a later one.
func TestLimitsOfThroughLayers(t *testing.T) {
	for _, side := range sides {
		w := flat(side, 0x1p100)
		for count := 1; count <= 12; count++ {
			for place := range count {
				wantLayersError(t, w, make([]int64, count), flatsBut(count, place, side, flat(side, 0x1p28)), impl.ErrLimit)
				wantLayersError(t, w, make([]int64, count), flatsBut(count, place, side, flat(side, 0x1p28i)), impl.ErrLimit)
				if side == 2 {
					wantLayersError(t, turningWave(), zerosBut(count, place, -8), flatsBut(count, 0, 2, flat(2, 1)), impl.ErrLimit)
				}
			}
			got, code := impl.ThroughLayers(w, make([]int64, count), flatsBut(count, count-1, side, flat(side, 0x1p27)))
			wantWave(t, "ThroughLayers", got, code, flat(side, 0x1p127), impl.ErrNone)
		}
		got, code := impl.ThroughLayers(flat(side, most), nil, nil)
		wantWave(t, "ThroughLayers", got, code, flat(side, most), impl.ErrNone)
	}
	got, code := impl.ThroughLayers(turningWave(), make([]int64, 12), flatsBut(12, 0, 2, flat(2, 1)))
	wantWave(t, "ThroughLayers", got, code, turningWave(), impl.ErrNone)
}

func TestErrorsOfLevels(t *testing.T) {
	for _, bad := range noWaves() {
		wantLevel(t, bad, 0, impl.ErrInvalid)
		for _, distances := range [][]int64{nil, {}, {0}, {65}, make([]int64, 12), make([]int64, 13), zerosBut(12, 11, math.MaxInt64)} {
			wantTrack(t, bad, distances, nil, impl.ErrInvalid)
			wantFocus(t, bad, distances, 0, impl.ErrInvalid)
		}
	}
	for _, side := range sides {
		for _, w := range []impl.Wave{flat(side, 1), flat(side, most)} {
			for count := 1; count <= 12; count++ {
				for place := range count {
					for _, d := range noDistances {
						wantTrack(t, w, zerosBut(count, place, d), nil, impl.ErrRange)
						wantFocus(t, w, zerosBut(count, place, d), 0, impl.ErrRange)
					}
				}
			}
			wantTrack(t, w, make([]int64, 13), nil, impl.ErrRange)
			wantFocus(t, w, make([]int64, 13), 0, impl.ErrRange)
			wantTrack(t, w, nil, nil, impl.ErrNone)
			wantFocus(t, w, nil, 0, impl.ErrRange)
			wantFocus(t, w, []int64{}, 0, impl.ErrRange)
		}
		for _, d := range []int64{-64, 64} {
			wantTrack(t, flat(side, 2), slices.Repeat([]int64{d}, 12), slices.Repeat([]float32{4}, 12), impl.ErrNone)
			wantFocus(t, flat(side, 2), slices.Repeat([]int64{d}, 12), 0, impl.ErrNone)
		}
	}
}

// What is not finite may arise at the first distance, or at a later one, in travel or in a level.
func TestLimitsOfLevels(t *testing.T) {
	for _, side := range sides {
		for count := 1; count <= 12; count++ {
			wantTrack(t, flat(side, most), make([]int64, count), nil, impl.ErrLimit)
			wantFocus(t, flat(side, most), make([]int64, count), 0, impl.ErrLimit)
			for place := range count {
				wantTrack(t, focusingWave(), zerosBut(count, place, -16), nil, impl.ErrLimit)
				wantFocus(t, focusingWave(), zerosBut(count, place, -16), 0, impl.ErrLimit)
			}
		}
		wantTrack(t, flat(side, 0x1p64), []int64{0}, nil, impl.ErrLimit)
		wantFocus(t, flat(side, 0x1p64), []int64{0}, 0, impl.ErrLimit)
		wantTrack(t, flat(side, 0x1p63), []int64{0}, []float32{0x1p126}, impl.ErrNone)
	}
	wantTrack(t, focusingWave(), []int64{0, -64, 64}, []float32{0x1p126, 0x1p126, 0x1p126}, impl.ErrNone)
	wantFocus(t, focusingWave(), []int64{0, -64, 64}, 0, impl.ErrNone)
}

func TestErrorsOfTiltWave(t *testing.T) {
	noTilts := outside(-8, 8)
	for _, bad := range noWaves() {
		for _, k := range append([]int64{-8, 0, 8}, noTilts...) {
			for _, tilt := range [][2]int64{{k, 0}, {0, k}, {k, k}} {
				w, code := impl.TiltWave(bad, tilt[0], tilt[1])
				wantNoWave(t, "TiltWave of no wave", w, code, impl.ErrInvalid)
			}
		}
	}
	for _, side := range sides {
		for _, k := range noTilts {
			for _, tilt := range [][2]int64{{k, 0}, {0, k}, {k, 8}, {-8, k}, {k, k}} {
				w, code := impl.TiltWave(flat(side, complex(most, most)), tilt[0], tilt[1])
				wantNoWave(t, "TiltWave out of range", w, code, impl.ErrRange)
			}
		}
		for _, u := range []int64{-8, 8} {
			for _, v := range []int64{-8, 8} {
				w, code := impl.TiltWave(flat(side, complex(most, most)), u, v)
				wantWave(t, "TiltWave", w, code, flat(side, complex(most, most)), impl.ErrNone)
			}
		}
	}
	// An eighth of a turn makes too much of one cell.
	for _, place := range []int{1, 8, 63} {
		great := flat(8, 1)
		great.Cells[place] = complex(most, most)
		w, code := impl.TiltWave(great, 1, 0)
		if place == 8 {
			wantNone(t, "TiltWave along rows", code)
			w, code = impl.TiltWave(great, 0, 1)
		}
		wantNoWave(t, "TiltWave of great cells", w, code, impl.ErrLimit)
	}
}

func TestErrorsOfLensTravel(t *testing.T) {
	great := flat(2, most)
	for _, bad := range noWaves() {
		for _, d := range append([]int64{-64, 0, 64}, noDistances...) {
			for _, pair := range [][2]impl.Wave{{bad, great}, {great, bad}, {bad, bad}, {bad, flat(8, 1)}, {flat(4, 1), bad}} {
				w, code := impl.LensTravel(pair[0], pair[1], d)
				wantNoWave(t, "LensTravel of no wave", w, code, impl.ErrInvalid)
			}
		}
	}
	for _, side := range sides {
		for _, d := range noDistances {
			w, code := impl.LensTravel(flat(side, most), flat(side, most), d)
			wantNoWave(t, "LensTravel of no distance", w, code, impl.ErrRange)
		}
		for _, d := range []int64{-64, 64} {
			w, code := impl.LensTravel(flat(side, 2), flat(side, 1i), d)
			wantWave(t, "LensTravel", w, code, flat(side, 2i), impl.ErrNone)
		}
	}
}

// What is not finite may arise on the way to the lens, there, and behind it.
func TestLimitsOfLensTravel(t *testing.T) {
	w, code := impl.LensTravel(turningWave(), flat(2, 0), -8)
	wantNoWave(t, "LensTravel with a limit before the lens", w, code, impl.ErrLimit)
	for _, side := range sides {
		w, code = impl.LensTravel(flat(side, 0x1p100), waveOf(side, 0x1p28), 16)
		wantNoWave(t, "LensTravel with a limit at the lens", w, code, impl.ErrLimit)
		if side > 1 {
			w, code = impl.LensTravel(flat(side, 0x1p100), flat(side, 0x1p27), 16)
			wantNoWave(t, "LensTravel with a limit behind the lens", w, code, impl.ErrLimit)
		}
		w, code = impl.LensTravel(flat(side, 0x1p100), flat(side, 0x1p21), 16)
		wantWave(t, "LensTravel", w, code, flat(side, 0x1p121), impl.ErrNone)
	}
}
