package tests

import (
	"math"
	"slices"
	"testing"

	"loop.example/g01225/impl"
)

// noCounts are whole numbers that are no counts of steps.
var noCounts = append(outside(2, 256), 0, -2, 1<<32+2, math.MinInt64+256)

// wantSteps compares the steps of all levels with a list and a code, and what is in steps with
// their multiples of q.
func wantSteps(t *testing.T, p impl.Picture, q float32, m int64, want []int64, wantCode int64) {
	t.Helper()
	steps, code := impl.StepsOf(p, q, m)
	if !slices.Equal(steps, want) || code != wantCode {
		t.Errorf("StepsOf(%v, %v, %d) = %v, %d; want %v, %d", p, q, m, steps, code, want, wantCode)
	}
	if wantCode != impl.ErrNone {
		wantInSteps(t, p, q, m, impl.Picture{}, wantCode)
		return
	}
	c := calculation{}
	multiples := c.levels(p.Side, func(i int64) float32 { return c.times(float32(want[i]), q) })
	wantInSteps(t, p, q, m, multiples, c.code())
}

// wantInSteps compares a picture in steps with a picture and a code.
func wantInSteps(t *testing.T, p impl.Picture, q float32, m int64, want impl.Picture, wantCode int64) {
	t.Helper()
	got, code := impl.InSteps(p, q, m)
	wantPicture(t, "InSteps", got, code, want, wantCode)
}

func TestSteps(t *testing.T) {
	n := numbers{85}
	counts := []int64{2, 3, 4, 7, 100, 255, 256}
	for _, r := range pictureRanges {
		for _, low := range []int{r[0], r[0] - 8} {
			for round := range 32 {
				p, q := n.picture(sides[round%4], r[0], r[1]), abs(n.next(low, r[1]))
				if q == 0 {
					continue
				}
				m := counts[n.bits()%uint64(len(counts))]
				var want []int64
				for i := range p.Side * p.Side {
					want = append(want, exactStep(p.Levels[i], q, m))
				}
				wantSteps(t, p, q, m, want, impl.ErrNone)
			}
		}
	}
}

func TestStepsByHand(t *testing.T) {
	wantSteps(t, pictureOf(2, 0.25, 0.5, 0.75, 9), 0.5, 3, []int64{1, 1, 2, 2}, impl.ErrNone)
	wantInSteps(t, pictureOf(2, 0.25, 0.5, 0.75, 9), 0.5, 3, pictureOf(2, 0.5, 0.5, 1, 1), impl.ErrNone)
	for _, c := range []struct {
		level, q float32
		m, want  int64
	}{
		{0, 1, 2, 0}, {zeroBelow, 1, 256, 0}, {0, least, 2, 0}, {0, most, 256, 0},
		// The sum with 1/2 is rounded, and the quotient before it.
		{0x1.fffffep-2, 1, 2, 1}, {0x1.fffffcp-2, 1, 2, 0}, {0x1.fffffep-2, 1, 256, 1}, {0x1.fffffcp-2, 1, 256, 0},
		{0x1.400002p1, 0x1.000002p0, 4, 3}, {0x1.4p1, 0x1.000002p0, 4, 2},
		// Quotients that are not finite, or far beyond the steps.
		{most, least, 2, 1}, {1, least, 256, 255}, {least, 0x1p-149, 2, 1}, {most, 1, 256, 255}, {1 << 63, 1, 256, 255},
		{0x1p-21, least, 256, 255}, {0x1p-20, least, 256, 255}, {0x1p64, 0x1p-64, 17, 16},
		// Subnormal numbers.
		{least, 2 * least, 2, 1}, {least, 3 * least, 2, 0}, {3 * least, 2 * least, 256, 2}, {5 * least, 2 * least, 3, 2},
		{least, most, 2, 0}, {7 * least, least, 256, 7}, {least, 1, 2, 0}, {most, most, 2, 1}, {most, most, 256, 1},
	} {
		for _, side := range sides {
			p := evenBut(side, 0, side*side-1, c.level)
			want := make([]int64, side*side)
			want[side*side-1] = c.want
			wantSteps(t, p, c.q, c.m, want, impl.ErrNone)
		}
	}
}

// Quotients at and around the last step, and those that end in 1/2, for all counts of steps.
func TestStepsAroundHalves(t *testing.T) {
	for m := int64(2); m <= 256; m++ {
		for _, q := range []float32{1, 0x1p-100, 0x1p100} {
			last := float32(m-1) * q
			levels := pictureOf(2, math.Nextafter32(last, 0), last, math.Nextafter32(last, most), (float32(m)-0.5)*q)
			wantSteps(t, levels, q, m, []int64{m - 1, m - 1, m - 1, m - 1}, impl.ErrNone)
			half := (float32(m) - 1.5) * q
			below := math.Nextafter32(half, 0)
			want := []int64{m - 1, m - 2, m - 1, m - 2}
			if m == 2 {
				want[1] = 1 // rounded to 1 with the half
			}
			levels = pictureOf(2, half, below, math.Nextafter32(half, most), math.Nextafter32(below, 0))
			wantSteps(t, levels, q, m, want, impl.ErrNone)
			if m < 256 {
				wantSteps(t, levels, q, 256, want, impl.ErrNone)
			}
		}
	}
}

// A multiple of q that is not finite is none where a level has this step, and only there.
func TestLimitsOfSteps(t *testing.T) {
	for _, side := range sides {
		for _, place := range []int64{0, side*side - 1} {
			p := evenBut(side, 0, place, most)
			steps := make([]int64, side*side)
			steps[place] = 2
			wantSteps(t, p, 0x1p127, 3, steps, impl.ErrNone)
			wantInSteps(t, p, 0x1p127, 3, impl.Picture{}, impl.ErrLimit)
			wantInSteps(t, p, 0x1p127, 256, impl.Picture{}, impl.ErrLimit)
			wantInSteps(t, p, 0x1p127, 2, evenBut(side, 0, place, 0x1p127), impl.ErrNone)
			wantInSteps(t, p, most, 2, p, impl.ErrNone)
			wantInSteps(t, p, most, 256, p, impl.ErrNone)
			wantInSteps(t, p, 0x1.fffffep126, 256, p, impl.ErrNone)
			p.Levels[place] = 0x1.7ffffep127
			wantInSteps(t, p, 0x1p127, 256, evenBut(side, 0, place, 0x1p127), impl.ErrNone)
			p.Levels[place] = 0x1.8p127
			wantInSteps(t, p, 0x1p127, 256, impl.Picture{}, impl.ErrLimit)
		}
	}
}

func TestErrorsOfSteps(t *testing.T) {
	counts := append([]int64{2, 16, 256}, noCounts...)
	noNumbers := []float32{nan, -nan, inf, -inf}
	for _, bad := range noPictures() {
		for _, q := range append([]float32{0, 1, -1, least, most}, noNumbers...) {
			for _, m := range []int64{2, 256, 1, 257, math.MinInt64, math.MaxInt64} {
				wantSteps(t, bad, q, m, nil, impl.ErrInvalid)
			}
		}
	}
	for _, side := range sides {
		for _, p := range []impl.Picture{even(side, 0), even(side, most)} {
			for _, m := range counts {
				for _, q := range noNumbers {
					wantSteps(t, p, q, m, nil, impl.ErrInvalid)
				}
				for _, q := range []float32{0, zeroBelow, -least, -1, -most} {
					wantSteps(t, p, q, m, nil, impl.ErrRange)
				}
			}
			for _, m := range noCounts {
				for _, q := range []float32{least, 1, most} {
					wantSteps(t, p, q, m, nil, impl.ErrRange)
				}
			}
		}
		for _, m := range []int64{2, 256} {
			wantSteps(t, even(side, most), least, m, slices.Repeat([]int64{m - 1}, int(side*side)), impl.ErrNone)
			wantSteps(t, even(side, 0), least, m, make([]int64, side*side), impl.ErrNone)
		}
	}
}
