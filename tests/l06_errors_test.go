package tests

import (
	"slices"
	"testing"

	"loop.example/g01225/impl"
)

// A roundFunction makes a wave of a wave and two pictures.
type roundFunction func(w impl.Wave, p, q impl.Picture) (impl.Wave, int64)

// roundFunctions returns the functions of all kinds of rounds.
func roundFunctions() map[string]roundFunction {
	return map[string]roundFunction{
		"RoundOfPictures":  impl.RoundOfPictures,
		"RoundWithSupport": impl.RoundWithSupport,
		"RoundWithFeedback": func(w impl.Wave, p, q impl.Picture) (impl.Wave, int64) {
			return impl.RoundWithFeedback(w, p, q, 0.5)
		},
		"RoundWithFeedback by none": func(w impl.Wave, p, q impl.Picture) (impl.Wave, int64) {
			return impl.RoundWithFeedback(w, p, q, zeroBelow)
		},
	}
}

// A startFunction makes something of two pictures, the number of a start and a number of rounds,
// and reports whether it is the zero value.
type startFunction func(a, b impl.Picture, k, rounds int64) (bool, int64)

// startFunctions returns the functions that run rounds from starts.
func startFunctions() map[string]startFunction {
	best := func(a, b impl.Picture, list []int64, rounds int64) (bool, int64) {
		index, code := impl.BestStart(a, b, list, rounds)
		return index == 0, code
	}
	return map[string]startFunction{
		"RunRounds": func(a, b impl.Picture, k, rounds int64) (bool, int64) {
			w, code := impl.RunRounds(a, b, k, rounds)
			return w == impl.Wave{}, code
		},
		"ErrorsOfRounds": func(a, b impl.Picture, k, rounds int64) (bool, int64) {
			list, code := impl.ErrorsOfRounds(a, b, k, rounds)
			return len(list) == 0, code
		},
		"BestStart of one": func(a, b impl.Picture, k, rounds int64) (bool, int64) {
			return best(a, b, []int64{k}, rounds)
		},
		"BestStart of many": func(a, b impl.Picture, k, rounds int64) (bool, int64) {
			return best(a, b, []int64{32, 5, 0, 1, 63, 6, 7, k}, rounds)
		},
	}
}

// wantRoundError wants that all rounds return a code and no wave.
func wantRoundError(t *testing.T, w impl.Wave, p, q impl.Picture, wantCode int64) {
	t.Helper()
	for name, f := range roundFunctions() {
		got, code := f(w, p, q)
		wantNoWave(t, name, got, code, wantCode)
	}
}

// wantStartError wants that all functions that run rounds return a code and nothing else.
func wantStartError(t *testing.T, a, b impl.Picture, k, rounds, wantCode int64) {
	t.Helper()
	for name, f := range startFunctions() {
		if isZero, code := f(a, b, k, rounds); !isZero || code != wantCode {
			t.Errorf("%s(%v, %v, %d, %d): %t, %d; want %d", name, a, b, k, rounds, isZero, code, wantCode)
		}
	}
}

// No wave and no picture, at any place, come before different sides and what is not finite.
func TestInvalidArgumentsOfRounds(t *testing.T) {
	for _, bad := range noWaves() {
		for _, side := range sides {
			wantRoundError(t, bad, even(side, 1), even(side, most), impl.ErrInvalid)
			wantRoundError(t, bad, even(side, 1), even(9-side, most), impl.ErrInvalid)
		}
		wantRoundError(t, bad, even(2, 1), even(4, 1), impl.ErrInvalid)
		wantRoundError(t, bad, impl.Picture{}, impl.Picture{}, impl.ErrInvalid)
		wantMiss(t, bad, even(2, 1), 0, impl.ErrInvalid)
		wantMiss(t, bad, impl.Picture{}, 0, impl.ErrInvalid)
	}
	for _, bad := range noPictures() {
		for _, w := range []impl.Wave{flat(1, most), flat(2, 1), flat(4, most), flat(8, 0)} {
			good := even(w.Side, 1)
			wantRoundError(t, w, bad, good, impl.ErrInvalid)
			wantRoundError(t, w, good, bad, impl.ErrInvalid)
			wantRoundError(t, w, bad, bad, impl.ErrInvalid)
			wantMiss(t, w, bad, 0, impl.ErrInvalid)
		}
		wantRoundError(t, flat(2, most), even(4, 1), bad, impl.ErrInvalid)
		wantRoundError(t, flat(2, most), bad, even(4, 1), impl.ErrInvalid)
	}
}

func TestDifferentSidesOfRounds(t *testing.T) {
	for _, a := range sides {
		for _, b := range sides {
			if a == b {
				continue
			}
			for _, z := range []complex64{0, 1, most} {
				wantRoundError(t, flat(a, z), even(b, 1), even(b, 1), impl.ErrRange)
				wantRoundError(t, flat(a, z), even(b, 0), even(a, 1), impl.ErrRange)
				wantRoundError(t, flat(a, z), even(a, most), even(b, 1), impl.ErrRange)
				wantMiss(t, flat(a, z), even(b, 1), 0, impl.ErrRange)
				wantMiss(t, flat(a, z), even(b, most), 0, impl.ErrRange)
			}
			for _, rounds := range []int64{0, 1, 24} {
				wantStartError(t, even(a, 1), even(b, 1), 5, rounds, impl.ErrRange)
				wantStartError(t, even(a, most), even(b, most), 0, rounds, impl.ErrRange)
			}
		}
		wantRoundError(t, flat(a, 0x1p64), even(a, 1), even(a, 1), impl.ErrLimit)
		wantMiss(t, flat(a, 0x1p64), even(a, 1), 0, impl.ErrLimit)
	}
}

// What is no number comes before different sides, and a number out of its range with these.
func TestNumbersOfFeedback(t *testing.T) {
	for _, side := range sides {
		w, ones := waveOf(side, 2), even(side, 1)
		for _, h := range []float32{nan, -nan, inf, -inf} {
			wantFedBack(t, w, ones, ones, h, impl.Wave{}, impl.ErrInvalid)
			wantFedBack(t, flat(side, most), ones, ones, h, impl.Wave{}, impl.ErrInvalid)
			wantFedBack(t, w, even(9-side, 1), ones, h, impl.Wave{}, impl.ErrInvalid)
			for _, other := range sides {
				wantFedBack(t, w, even(other, 1), ones, h, impl.Wave{}, impl.ErrInvalid)
				wantFedBack(t, w, ones, even(other, 1), h, impl.Wave{}, impl.ErrInvalid)
			}
		}
		for _, h := range []float32{-least, -1, -most, 1 + 0x1p-23, 2, most} {
			wantFedBack(t, w, ones, ones, h, impl.Wave{}, impl.ErrRange)
			wantFedBack(t, w, ones, even(side, 0), h, impl.Wave{}, impl.ErrRange)
			wantFedBack(t, flat(side, 0x1p64), ones, ones, h, impl.Wave{}, impl.ErrRange)
			for _, bad := range []impl.Picture{{}, even(3, 1), evenBut(side, 1, 0, -1)} {
				wantFedBack(t, w, bad, ones, h, impl.Wave{}, impl.ErrInvalid)
				wantFedBack(t, w, ones, bad, h, impl.Wave{}, impl.ErrInvalid)
			}
			wantFedBack(t, impl.Wave{}, ones, ones, h, impl.Wave{}, impl.ErrInvalid)
		}
		for _, h := range []float32{0, zeroBelow, least, 1 - 0x1p-24, 1} {
			wantFedBack(t, w, ones, ones, h, waveOf(side, 1), impl.ErrNone)
			wantFedBack(t, w, ones, even(side, 0), h, waveOf(side, complex(exactSum(2, -h), 0)), impl.ErrNone)
			wantFedBack(t, flat(side, 0x1p64), ones, ones, h, impl.Wave{}, impl.ErrLimit)
		}
	}
}

func TestInvalidPicturesOfStarts(t *testing.T) {
	for _, bad := range noPictures() {
		good := even(2, most)
		if impl.IsWave(impl.Wave{Side: bad.Side}) {
			good = even(bad.Side, most)
		}
		for _, numbers := range [][2]int64{{0, 0}, {63, 24}, {-1, 0}, {64, 25}, {0, -1}} {
			wantStartError(t, bad, good, numbers[0], numbers[1], impl.ErrInvalid)
			wantStartError(t, good, bad, numbers[0], numbers[1], impl.ErrInvalid)
			wantStartError(t, bad, bad, numbers[0], numbers[1], impl.ErrInvalid)
		}
		wantStartError(t, bad, even(8, 1), 0, 1, impl.ErrInvalid)
		wantStartError(t, even(8, 1), bad, 0, 1, impl.ErrInvalid)
		for _, list := range [][]int64{nil, {-1}, make([]int64, 9)} {
			wantBest(t, bad, good, list, 0, 0, impl.ErrInvalid)
			wantBest(t, good, bad, list, 0, 0, impl.ErrInvalid)
		}
	}
}

func TestNumbersOfStarts(t *testing.T) {
	for _, side := range sides {
		for _, p := range []impl.Picture{even(side, 1), even(side, most)} {
			for _, k := range outside(0, 63) {
				for _, rounds := range []int64{0, 1, 24, 25, -1} {
					wantStartError(t, p, p, k, rounds, impl.ErrRange)
				}
			}
			for _, rounds := range outside(0, 24) {
				for _, k := range []int64{0, 32, 63, 64, -1} {
					wantStartError(t, p, p, k, rounds, impl.ErrRange)
				}
			}
		}
		for _, k := range []int64{0, 63} {
			for _, rounds := range []int64{0, 24} {
				for name, f := range startFunctions() {
					_, code := f(pictureOf(side, 4), even(side, 4), k, rounds)
					wantNone(t, name, code)
				}
			}
		}
	}
}

func TestListsOfStarts(t *testing.T) {
	for _, side := range sides {
		for _, p := range []impl.Picture{pictureOf(side, 1), even(side, most)} {
			for _, rounds := range []int64{0, 24} {
				for _, list := range [][]int64{nil, {}, make([]int64, 9), make([]int64, 64)} {
					wantBest(t, p, p, list, rounds, 0, impl.ErrRange)
				}
				for count := 1; count <= 8; count++ {
					for place := range count {
						for _, k := range outside(0, 63) {
							list := make([]int64, count)
							list[place] = k
							wantBest(t, p, p, list, rounds, 0, impl.ErrRange)
						}
					}
				}
			}
		}
		for count := 1; count <= 8; count++ {
			wantBest(t, pictureOf(side, 1), even(side, 1), slices.Repeat([]int64{63}, count), 24, 0, impl.ErrNone)
			wantBest(t, pictureOf(side, 1), even(side, 1), make([]int64, count), 0, 0, impl.ErrNone)
		}
	}
}

// A range comes before what is not finite, and this is ErrLimit for all functions.
func TestLimitsAfterRanges(t *testing.T) {
	great, whole := even(2, 0x1p124), even(2, 0x1p126)
	wantStartError(t, great, whole, 64, 1, impl.ErrRange)
	wantStartError(t, great, whole, 0, 25, impl.ErrRange)
	wantStartError(t, great, even(4, 1), 0, 1, impl.ErrRange)
	for _, rounds := range []int64{1, 2, 24} {
		wantStartError(t, great, whole, 0, rounds, impl.ErrLimit)
		wantStartError(t, even(8, most), even(8, most), 0, rounds, impl.ErrLimit)
	}
}
