package tests

import (
	"math"
	"testing"

	"loop.example/g01225/impl"
)

type waveFunction = func(impl.Wave) (impl.Wave, int64)

// moves are the functions that only move cells, with the cell that each of them takes.
var moves = map[string]struct {
	f    waveFunction
	from func(n, y, x int64) (int64, int64)
}{
	"FlipWave":      {impl.FlipWave, func(n, y, x int64) (int64, int64) { return (n - y) % n, (n - x) % n }},
	"CentreWave":    {impl.CentreWave, func(n, y, x int64) (int64, int64) { return (y + n/2) % n, (x + n/2) % n }},
	"TransposeWave": {impl.TransposeWave, func(n, y, x int64) (int64, int64) { return x, y }},
}

func TestMovedWaves(t *testing.T) {
	n := numbers{30}
	for name, move := range moves {
		for _, side := range sides {
			w := n.wave(side, -149, 127)
			want := impl.Wave{Side: side}
			for y := range side {
				for x := range side {
					row, column := move.from(side, y, x)
					want.Cells[side*y+x] = w.Cells[side*row+column]
				}
			}
			got, code := move.f(w)
			wantWave(t, name, got, code, want, impl.ErrNone)
		}
	}
}

// Guarantee: flips and transposed waves undo themselves, centred ones, too.
func TestMovesUndoThemselves(t *testing.T) {
	n := numbers{31}
	for name, move := range moves {
		for _, side := range sides {
			w := n.wave(side, -149, 127)
			once, code := move.f(w)
			if code != impl.ErrNone {
				t.Fatalf("%s: code %d", name, code)
			}
			twice, code := move.f(once)
			wantWave(t, name+" twice", twice, code, w, impl.ErrNone)
		}
	}
}

func TestMovesByHand(t *testing.T) {
	numbered := waveOf(4, 0, 1, 2, 3, 4, 5, 6, 7, 8, 9, 10, 11, 12, 13, 14, 15)
	for name, want := range map[string]impl.Wave{
		"FlipWave":      waveOf(4, 0, 3, 2, 1, 12, 15, 14, 13, 8, 11, 10, 9, 4, 7, 6, 5),
		"CentreWave":    waveOf(4, 10, 11, 8, 9, 14, 15, 12, 13, 2, 3, 0, 1, 6, 7, 4, 5),
		"TransposeWave": waveOf(4, 0, 4, 8, 12, 1, 5, 9, 13, 2, 6, 10, 14, 3, 7, 11, 15),
	} {
		got, code := moves[name].f(numbered)
		wantWave(t, name, got, code, want, impl.ErrNone)
	}
}

func TestErrorsOfTransforms(t *testing.T) {
	functions := map[string]waveFunction{
		"TransformWave": impl.TransformWave, "BackTransform": impl.BackTransform,
		"FlipWave": impl.FlipWave, "CentreWave": impl.CentreWave, "TransposeWave": impl.TransposeWave,
	}
	for _, bad := range noWaves() {
		for name, f := range functions {
			w, code := f(bad)
			wantNoWave(t, name+" of no wave", w, code, impl.ErrInvalid)
		}
		wantPower(t, bad, impl.Picture{}, impl.ErrInvalid)
		wantTripError(t, bad, 0, impl.ErrInvalid)
	}
	for _, side := range []int64{2, 4, 8} {
		for _, z := range []complex64{most, complex(0, -most)} {
			great := flat(side, z)
			for _, name := range []string{"TransformWave", "BackTransform"} {
				w, code := functions[name](great)
				wantNoWave(t, name+" of great cells", w, code, impl.ErrLimit)
			}
			wantPower(t, great, impl.Picture{}, impl.ErrLimit)
			wantTripError(t, great, 0, impl.ErrLimit)
		}
	}
}

// wantPower compares the power spectrum of w with a picture and a code.
func wantPower(t *testing.T, w impl.Wave, want impl.Picture, wantCode int64) {
	t.Helper()
	if p, code := impl.PowerSpectrum(w); p != want || code != wantCode {
		t.Errorf("PowerSpectrum(%v) = %v, %d; want %v, %d", w, p, code, want, wantCode)
	}
}

func TestPowerSpectrum(t *testing.T) {
	n := numbers{32}
	for _, r := range append(ranges, [2]int{55, 62}) {
		for round := range 12 {
			w := n.wave(sides[round%4], r[0], r[1])
			c := calculation{}
			there := c.there(w)
			want, wantCode := impl.Picture{Side: w.Side}, int64(impl.ErrNone)
			for i, z := range there.Cells {
				want.Levels[i] = exactSquare(z)
				c.limit = c.limit || want.Levels[i] > most
			}
			if c.limit {
				want, wantCode = impl.Picture{}, impl.ErrLimit
			}
			wantPower(t, w, want, wantCode)
		}
	}
	wantPower(t, waveOf(1, 3-4i), pictureOf(1, 25), impl.ErrNone)
	wantPower(t, waveOf(2, 1, 2, 3, 4), pictureOf(2, 100, 4, 16, 0), impl.ErrNone)
	wantPower(t, waveOf(2, 0, 1i), pictureOf(2, 1, 1, 1, 1), impl.ErrNone)
	// The transform is finite, but the squares are not.
	wantPower(t, waveOf(1, 0x1p64), impl.Picture{}, impl.ErrLimit)
	wantPower(t, flat(8, 0x1p58), impl.Picture{}, impl.ErrLimit)
	wantPower(t, flat(8, 0x1p57), pictureOf(8, 0x1p126), impl.ErrNone)
}

func TestFoldedFrequency(t *testing.T) {
	for side, frequencies := range map[int64][]int64{1: {0}, 2: {0, -1}, 4: {0, 1, -2, -1}, 8: {0, 1, 2, 3, -4, -3, -2, -1}} {
		for k, want := range frequencies {
			if got, code := impl.FoldedFrequency(side, int64(k)); got != want || code != impl.ErrNone {
				t.Errorf("FoldedFrequency(%d, %d) = %d, %d; want %d", side, k, got, code, want)
			}
		}
	}
	for _, bad := range [][2]int64{
		{1, 1}, {2, 2}, {4, 4}, {8, 8}, {1, -1}, {2, -1}, {4, -2}, {8, -8}, {0, 0}, {3, 1}, {5, 0}, {6, 2}, {7, 0}, {9, 0},
		{16, 3}, {-1, 0}, {-2, 0}, {-8, -3}, {8, math.MaxInt64}, {8, math.MinInt64}, {math.MinInt64, 0}, {math.MaxInt64, 0},
	} {
		if got, code := impl.FoldedFrequency(bad[0], bad[1]); got != 0 || code != impl.ErrRange {
			t.Errorf("FoldedFrequency(%d, %d) = %d, %d", bad[0], bad[1], got, code)
		}
	}
}

// bandsOfSides are the greater absolute values of the folded frequencies of row and column.
var bandsOfSides = map[int64][]int64{
	1: {0},
	2: {0, 1, 1, 1},
	4: {0, 1, 2, 1, 1, 1, 2, 1, 2, 2, 2, 2, 1, 1, 2, 1},
	8: {
		0, 1, 2, 3, 4, 3, 2, 1,
		1, 1, 2, 3, 4, 3, 2, 1,
		2, 2, 2, 3, 4, 3, 2, 2,
		3, 3, 3, 3, 4, 3, 3, 3,
		4, 4, 4, 4, 4, 4, 4, 4,
		3, 3, 3, 3, 4, 3, 3, 3,
		2, 2, 2, 3, 4, 3, 2, 2,
		1, 1, 2, 3, 4, 3, 2, 1,
	},
}

func TestBandOfWave(t *testing.T) {
	n := numbers{33}
	for _, r := range [][2]int{{-3, 3}, {-149, -135}, {118, 127}} {
		for _, side := range sides {
			w := n.wave(side, r[0], r[1])
			c := calculation{}
			spectrum := c.there(w)
			for l := range int64(9) {
				for h := l; h <= 8; h++ {
					kept := impl.Wave{Side: side}
					for i, band := range bandsOfSides[side] {
						if band >= l && band <= h {
							kept.Cells[i] = spectrum.Cells[i]
						}
					}
					d := c
					want, wantCode := d.result(d.back(kept))
					got, code := impl.BandOfWave(w, l, h)
					wantWave(t, "BandOfWave", got, code, want, wantCode)
				}
			}
		}
	}
}

func TestEdgesOfBands(t *testing.T) {
	w := waveOf(2, 1, 2, 3, 4)
	for _, c := range []struct {
		l, h int64
		want impl.Wave
	}{
		{0, 8, w}, {0, 1, w}, {0, 0, flat(2, 2.5)}, {1, 1, waveOf(2, -1.5, -0.5, 0.5, 1.5)},
		{1, 8, waveOf(2, -1.5, -0.5, 0.5, 1.5)}, {2, 8, impl.Wave{Side: 2}}, {8, 8, impl.Wave{Side: 2}},
	} {
		got, code := impl.BandOfWave(w, c.l, c.h)
		wantWave(t, "BandOfWave", got, code, c.want, impl.ErrNone)
	}
	for _, side := range sides {
		great := flat(side, most)
		for _, bad := range [][2]int64{
			{-1, 0}, {-1, 8}, {0, 9}, {9, 9}, {8, 9}, {1, 0}, {8, 7}, {5, 4}, {-2, -1}, {0, math.MaxInt64},
			{math.MinInt64, 0}, {math.MaxInt64, math.MinInt64},
		} {
			got, code := impl.BandOfWave(great, bad[0], bad[1])
			wantNoWave(t, "BandOfWave", got, code, impl.ErrRange)
		}
	}
	for _, bad := range noWaves() {
		for _, h := range []int64{8, 9, -1} {
			got, code := impl.BandOfWave(bad, 0, h)
			wantNoWave(t, "BandOfWave of no wave", got, code, impl.ErrInvalid)
		}
	}
}

// What is not finite in the transform shows, though the band does not keep it.
func TestLimitsOfBands(t *testing.T) {
	for _, side := range []int64{2, 4, 8} {
		for _, band := range [][2]int64{{0, 0}, {0, 8}, {1, 1}, {4, 8}, {8, 8}} {
			got, code := impl.BandOfWave(flat(side, most), band[0], band[1])
			wantNoWave(t, "BandOfWave", got, code, impl.ErrLimit)
		}
		// Here the transform is finite, and the transform back is only for a part of it.
		one := waveOf(side, most)
		got, code := impl.BandOfWave(one, 0, 0)
		wantWave(t, "BandOfWave", got, code, flat(side, most/asComplex(side*side)), impl.ErrNone)
		got, code = impl.BandOfWave(one, 0, 8)
		wantNoWave(t, "BandOfWave", got, code, impl.ErrLimit)
	}
}

func asComplex(k int64) complex64 { return complex(float32(k), 0) }

// wantTripError compares the error of a trip with a number and a code.
func wantTripError(t *testing.T, w impl.Wave, want float32, wantCode int64) {
	t.Helper()
	if x, code := impl.TripError(w); x != want || code != wantCode {
		t.Errorf("TripError(%v) = %v, %d; want %v, %d", w, x, code, want, wantCode)
	}
}

func TestTripError(t *testing.T) {
	n := numbers{34}
	parts := map[bool]int{}
	for _, r := range ranges {
		for round := range 16 {
			w := n.wave(sides[round%4], r[0], r[1])
			c := calculation{}
			trip := c.back(c.there(w))
			want, wantCode, ofReal := float32(0), int64(impl.ErrNone), false
			for i, z := range trip.Cells {
				d := c.difference(z, w.Cells[i])
				if x := abs(real(d)); x > want {
					want, ofReal = x, true
				}
				if x := abs(imag(d)); x > want {
					want, ofReal = x, false
				}
			}
			if c.limit {
				want, wantCode = 0, impl.ErrLimit
			}
			if want > 0 {
				parts[ofReal]++
			}
			wantTripError(t, w, want, wantCode)
		}
	}
	if parts[true] == 0 || parts[false] == 0 {
		t.Errorf("the greatest differences are of %v parts", parts)
	}
	wantTripError(t, waveOf(1, complex(most, -least)), 0, impl.ErrNone)
	wantTripError(t, waveOf(2, 1<<24, 1, 1, 1), 1, impl.ErrNone)
	wantTripError(t, waveOf(2, complex(0, 1<<24), 1i, 1i, 1i), 1, impl.ErrNone)
	wantTripError(t, waveOf(2, most), 0, impl.ErrLimit)
}

func abs(x float32) float32 { return float32(math.Abs(float64(x))) }
