package tests

import (
	"testing"

	"loop.example/g01225/impl"
)

// wantHalftone compares the halftone of a picture for x with a mask and a code.
func wantHalftone(t *testing.T, p impl.Picture, x float32, want impl.Wave, wantCode int64) {
	t.Helper()
	if wantCode != impl.ErrNone {
		want = impl.Wave{}
	}
	got, code := impl.HalftoneOf(p, x)
	wantWave(t, "HalftoneOf", got, code, want, wantCode)
	if code == impl.ErrNone && !impl.IsMask(got) {
		t.Errorf("HalftoneOf(%v, %v) = %v is no mask", p, x, got)
	}
}

func TestHalftones(t *testing.T) {
	n := numbers{90}
	for _, r := range append(pictureRanges, [2]int{-2, -1}, [2]int{-149, -148}, [2]int{-147, -147}, [2]int{125, 126}, [2]int{126, 126}) {
		for round := range 48 {
			p, x := n.picture(sides[round%4], r[0], r[1]), abs(n.next(r[0], r[1]))
			c := calculation{}
			want := c.halftone(p, x)
			wantHalftone(t, p, x, want, c.code())
		}
	}
}

func TestHalftonesByHand(t *testing.T) {
	for _, c := range []struct {
		p    impl.Picture
		t    float32
		want impl.Wave
	}{
		{pictureOf(1, 1), 1, waveOf(1, 1)},
		{pictureOf(1, 0x1.fffffep-1), 1, waveOf(1, 0)},
		{even(2, 1), 1, waveOf(2, 1, 0, 0, 1)},
		{even(2, 0), least, flat(2, 0)},
		{even(4, 4), 1, flat(4, 1)},
		// A half goes to the right and another one below.
		{pictureOf(2, 3), 4, flat(2, 0)},
		{pictureOf(2, 2, 2, 2, 1), 3, waveOf(2, 0, 1, 1, 0)},
		{pictureOf(2, 8, 1, 2), 1, waveOf(2, 1, 1, 1, 1)},
		{pictureOf(2, 2, 1, 3), 1, waveOf(2, 1, 1, 1, 0)},
		// What is left in the last column does not go on in the row below, but to its last column.
		{pictureOf(2, 0, 3, 3, 0), 4, flat(2, 0)},
		{pictureOf(2, 0, 3, 0, 2.5), 4, waveOf(2, 0, 0, 0, 1)},
		{pictureOf(2, 0, 0, 3, 2.5), 4, waveOf(2, 0, 0, 0, 1)},
		{pictureOf(2, 0, 3, 0, 2), 4, flat(2, 0)},
		{pictureOf(4, 0, 0, 0, 3, 3, 0, 0, 2.5), 4, waveOf(4, 0, 0, 0, 0, 0, 0, 0, 1)},
		// An open cell may leave less than nothing, with which others stay closed.
		{pictureOf(2, 4, 4, 4, 4), 4, waveOf(2, 1, 0, 0, 1)},
		{pictureOf(2, 4, 5, 7, 7), 4, waveOf(2, 1, 0, 1, 1)},
		{pictureOf(2, 12, 0, 0, 0), 4, waveOf(2, 1, 0, 0, 0)},
		{pictureOf(2, 16, 0, 0, 4), 4, waveOf(2, 1, 1, 1, 0)},
	} {
		got, code := impl.HalftoneOf(c.p, c.t)
		wantWave(t, "HalftoneOf", got, code, c.want, impl.ErrNone)
		exact := calculation{}
		if want := exact.halftone(c.p, c.t); want != c.want || exact.limit {
			t.Errorf("the halftone of %v for %v is %v, not %v", c.p, c.t, want, c.want)
		}
	}
}

// A cell first gets what comes from above, as the cell above has its turn before the left one.
func TestOrderOfSumsOfHalftones(t *testing.T) {
	wantHalftone(t, pictureOf(2, 0, 2, 4, 1<<24), 1<<24+4, flat(2, 0), impl.ErrNone)
	wantHalftone(t, pictureOf(2, 0, 4, 2, 1<<24), 1<<24+4, waveOf(2, 0, 0, 0, 1), impl.ErrNone)
	// Halves are rounded before they are added.
	wantHalftone(t, pictureOf(2, least, 3*least), 4*least, flat(2, 0), impl.ErrNone)
	wantHalftone(t, pictureOf(2, 3*least, 2*least), 4*least, waveOf(2, 0, 1), impl.ErrNone)
	wantHalftone(t, pictureOf(2, 5*least, 6*least), 5*least, waveOf(2, 1, 0), impl.ErrNone)
	wantHalftone(t, pictureOf(2, 5*least, 7*least), 5*least, waveOf(2, 1, 1), impl.ErrNone)
}

func TestLimitsOfHalftones(t *testing.T) {
	for _, side := range sides {
		last := side*side - 1
		for _, place := range []int64{0, last} {
			// 2 t arises where a cell is open, even if nothing is left to do with the rest.
			for _, x := range []float32{0x1p127, most} {
				wantHalftone(t, evenBut(side, 0, place, x), x, impl.Wave{}, impl.ErrLimit)
				wantHalftone(t, evenBut(side, 0, place, 0x1.fffffep126), x, flat(side, 0), impl.ErrNone)
			}
			want := flat(side, 0)
			want.Cells[place] = 1
			wantHalftone(t, evenBut(side, 0, place, 0x1.fffffep126), 0x1.fffffep126, want, impl.ErrNone)
		}
		wantHalftone(t, even(side, 0), most, flat(side, 0), impl.ErrNone)
		if side == 1 {
			continue
		}
		// A sum of levels that are all less than t is the first thing that is not finite.
		for _, pair := range [][2]int64{{0, 1}, {0, side}, {last - 1, last}, {last - side, last}} {
			p := evenBut(side, 0, pair[0], 0x1.8p127)
			p.Levels[pair[1]] = 0x1.ap127
			wantHalftone(t, p, most, impl.Wave{}, impl.ErrLimit)
			p.Levels[pair[1]] = 0x1p126
			wantHalftone(t, p, most, flat(side, 0), impl.ErrNone)
		}
		// Great levels that do not meet.
		p := evenBut(side, 0, side-1, 0x1.8p127)
		p.Levels[side] = 0x1.8p127
		wantHalftone(t, p, most, flat(side, 0), impl.ErrNone)
	}
	// What is too great with the half from above stays so.
	wantHalftone(t, pictureOf(2, 0, 0x1.8p125, 0x1p126, most), 0x1p126, impl.Wave{}, impl.ErrLimit)
	wantHalftone(t, pictureOf(2, 0, 0x1p126, 0x1.8p125, most), 0x1p126, waveOf(2, 0, 1, 0, 1), impl.ErrNone)
	// The half of a closed cell is what makes the next sum too great, or just not so.
	wantHalftone(t, pictureOf(2, 0x1p104, most), 0x1p126, impl.Wave{}, impl.ErrLimit)
	wantHalftone(t, pictureOf(2, 0x1.fffffep103, most), 0x1p126, waveOf(2, 0, 1), impl.ErrNone)
}

func TestErrorsOfHalftones(t *testing.T) {
	noNumbers := []float32{nan, -nan, inf, -inf}
	for _, bad := range noPictures() {
		for _, x := range append([]float32{0, zeroBelow, 1, -1, least, most}, noNumbers...) {
			wantHalftone(t, bad, x, impl.Wave{}, impl.ErrInvalid)
		}
	}
	for _, side := range sides {
		for _, level := range []float32{0, 1, most} {
			for _, x := range noNumbers {
				wantHalftone(t, even(side, level), x, impl.Wave{}, impl.ErrInvalid)
			}
			for _, x := range []float32{0, zeroBelow, -least, -1, -most} {
				wantHalftone(t, even(side, level), x, impl.Wave{}, impl.ErrRange)
			}
		}
		wantHalftone(t, even(side, 0), least, flat(side, 0), impl.ErrNone)
		wantHalftone(t, even(side, 1), least, flat(side, 1), impl.ErrNone)
		want := flat(side, 0)
		want.Cells[0] = 1
		wantHalftone(t, evenBut(side, 0, 0, least), least, want, impl.ErrNone)
	}
}
