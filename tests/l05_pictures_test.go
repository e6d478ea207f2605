package tests

import (
	"math"
	"testing"

	"loop.example/g01225/impl"
)

// wantAdded compares the sum of two pictures with a picture and a code.
func wantAdded(t *testing.T, p, q, want impl.Picture, wantCode int64) {
	t.Helper()
	got, code := impl.AddPictures(p, q)
	wantPicture(t, "AddPictures", got, code, want, wantCode)
}

// wantScaled compares r times a picture with a picture and a code.
func wantScaled(t *testing.T, r float32, p, want impl.Picture, wantCode int64) {
	t.Helper()
	got, code := impl.ScalePicture(r, p)
	wantPicture(t, "ScalePicture", got, code, want, wantCode)
}

// wantNormed compares a normed picture with a picture and a code.
func wantNormed(t *testing.T, p, want impl.Picture, wantCode int64) {
	t.Helper()
	got, code := impl.NormPicture(p)
	wantPicture(t, "NormPicture", got, code, want, wantCode)
}

// wantNegative compares the negative of a picture with a picture and a code.
func wantNegative(t *testing.T, p impl.Picture, x float32, want impl.Picture, wantCode int64) {
	t.Helper()
	got, code := impl.NegativeOf(p, x)
	wantPicture(t, "NegativeOf", got, code, want, wantCode)
}

// wantContrast compares the contrast of a picture with a number and a code.
func wantContrast(t *testing.T, p impl.Picture, want float32, wantCode int64) {
	t.Helper()
	if x, code := impl.ContrastOf(p); x != want || code != wantCode {
		t.Errorf("ContrastOf(%v) = %v, %d; want %v, %d", p, x, code, want, wantCode)
	}
}

// wantDifference compares the difference of two pictures with a number and a code.
func wantDifference(t *testing.T, p, q impl.Picture, want float32, wantCode int64) {
	t.Helper()
	if x, code := impl.DifferenceOf(p, q); x != want || code != wantCode {
		t.Errorf("DifferenceOf(%v, %v) = %v, %d; want %v, %d", p, q, x, code, want, wantCode)
	}
}

// wantThreshold compares a threshold mask with a mask and a code.
func wantThreshold(t *testing.T, p impl.Picture, x float32, want impl.Wave, wantCode int64) {
	t.Helper()
	got, code := impl.ThresholdMask(p, x)
	wantWave(t, "ThresholdMask", got, code, want, wantCode)
}

func TestAddPictures(t *testing.T) {
	n := numbers{75}
	for _, r := range pictureRanges {
		for round := range 16 {
			p, q := n.picture(sides[round%4], r[0], r[1]), n.picture(sides[round%4], r[0], r[1])
			c := calculation{}
			want := c.levels(p.Side, func(i int64) float32 { return c.plus(p.Levels[i], q.Levels[i]) })
			wantAdded(t, p, q, want, c.code())
		}
	}
	wantAdded(t, pictureOf(2, 1, 3, 2, 4), pictureOf(2, 1, 0, 0, 3), pictureOf(2, 2, 3, 2, 7), impl.ErrNone)
	wantAdded(t, pictureOf(2, 1<<24, 1<<24, least, least), pictureOf(2, 1, 3, least, 1), pictureOf(2, 1<<24, 1<<24+4, 2*least, 1), impl.ErrNone)
	for _, side := range sides {
		for _, place := range []int64{0, side*side - 1} {
			wantAdded(t, evenBut(side, 1, place, most), evenBut(side, 1, place, 0x1p103), impl.Picture{}, impl.ErrLimit)
			wantAdded(t, evenBut(side, 1, place, 0x1p103), evenBut(side, 1, place, most), impl.Picture{}, impl.ErrLimit)
			wantAdded(t, evenBut(side, 1, place, most), evenBut(side, 1, place, 0x1.fffffep102), evenBut(side, 2, place, most), impl.ErrNone)
		}
		wantAdded(t, even(side, most), even(side, 0), even(side, most), impl.ErrNone)
		wantAdded(t, even(side, 0), even(side, 0), even(side, 0), impl.ErrNone)
	}
}

func TestScalePicture(t *testing.T) {
	n := numbers{76}
	for _, r := range append(pictureRanges, [2]int{-76, -73}, [2]int{61, 64}) {
		for round := range 16 {
			p, x := n.picture(sides[round%4], r[0], r[1]), abs(n.next(r[0], r[1]))
			c := calculation{}
			want := c.levels(p.Side, func(i int64) float32 { return c.times(x, p.Levels[i]) })
			wantScaled(t, x, p, want, c.code())
		}
	}
	wantScaled(t, 0.5, pictureOf(2, 1, 3, 2, 0), pictureOf(2, 0.5, 1.5, 1, 0), impl.ErrNone)
	wantScaled(t, 0.5, pictureOf(2, least, 2*least, 3*least, 5*least), pictureOf(2, 0, least, 2*least, 2*least), impl.ErrNone)
	wantScaled(t, least, pictureOf(2, 0.5, 0.75, 1, most), pictureOf(2, 0, least, least, 0x1.fffffep-22), impl.ErrNone)
	wantScaled(t, 1+0x1p-23, pictureOf(1, 1+0x1p-23), pictureOf(1, 1+0x1p-22), impl.ErrNone)
	for _, side := range sides {
		for _, x := range []float32{0, zeroBelow} {
			wantScaled(t, x, even(side, most), even(side, 0), impl.ErrNone)
			wantScaled(t, x, even(side, 0), even(side, 0), impl.ErrNone)
		}
		for _, x := range []float32{-least, -1, -most} {
			wantScaled(t, x, even(side, most), impl.Picture{}, impl.ErrRange)
			wantScaled(t, x, even(side, 0), impl.Picture{}, impl.ErrRange)
		}
		wantScaled(t, 1, even(side, most), even(side, most), impl.ErrNone)
		wantScaled(t, most, even(side, 0), even(side, 0), impl.ErrNone)
		for _, place := range []int64{0, side*side - 1} {
			wantScaled(t, 2, evenBut(side, 1, place, 0x1p127), impl.Picture{}, impl.ErrLimit)
			wantScaled(t, 1+0x1p-23, evenBut(side, 0, place, most), impl.Picture{}, impl.ErrLimit)
			wantScaled(t, 2, evenBut(side, 1, place, 0x1.fffffep126), evenBut(side, 2, place, most), impl.ErrNone)
		}
	}
}

func TestNormPicture(t *testing.T) {
	n := numbers{77}
	for _, r := range pictureRanges {
		for round := range 16 {
			p := n.picture(sides[round%4], r[0], r[1])
			p.Levels[n.bits()%uint64(p.Side*p.Side)] = abs(n.next(r[0], r[1]))
			c := calculation{}
			top, _ := topAndBottom(p)
			want := c.levels(p.Side, func(i int64) float32 { return c.over(p.Levels[i], top) })
			wantNormed(t, p, want, impl.ErrNone)
		}
	}
	wantNormed(t, pictureOf(2, 1, 3, 2, 4), pictureOf(2, 0.25, 0.75, 0.5, 1), impl.ErrNone)
	wantNormed(t, pictureOf(2, least, 3*least, 0, 2*least), pictureOf(2, 0x1.555556p-2, 1, 0, 0x1.555556p-1), impl.ErrNone)
	wantNormed(t, pictureOf(2, most, least, 1, 0x1p127), pictureOf(2, 1, 0, 0x1.000001p-128, 0x1.000002p-1), impl.ErrNone)
	for _, side := range sides {
		wantNormed(t, even(side, 0), impl.Picture{}, impl.ErrState)
		wantNormed(t, signedPicture(even(side, 0)), impl.Picture{}, impl.ErrState)
		for _, x := range []float32{least, 3, most} {
			wantNormed(t, even(side, x), even(side, 1), impl.ErrNone)
			for _, place := range []int64{0, side*side - 1} {
				wantNormed(t, evenBut(side, 0, place, x), evenBut(side, 0, place, 1), impl.ErrNone)
			}
		}
	}
}

// topAndBottom returns the greatest and the least level of a picture.
func topAndBottom(p impl.Picture) (float32, float32) {
	top, bottom := p.Levels[0], p.Levels[0]
	for i := range p.Side * p.Side {
		if p.Levels[i] > top {
			top = p.Levels[i]
		}
		if p.Levels[i] < bottom {
			bottom = p.Levels[i]
		}
	}
	return top, bottom
}

func TestContrastOf(t *testing.T) {
	n := numbers{78}
	for _, r := range pictureRanges {
		for round := range 24 {
			p := n.picture(sides[round%4], r[0], r[1])
			top, bottom := topAndBottom(p)
			if top == 0 {
				continue
			}
			if bottom == 0 && round%2 == 0 {
				p, bottom = even(p.Side, top), abs(n.next(r[0], r[1]))
				p.Levels[0] = bottom
				top, bottom = topAndBottom(p)
			}
			c := calculation{}
			sum := c.plus(top, bottom)
			if c.limit {
				wantContrast(t, p, 0, impl.ErrLimit)
				continue
			}
			wantContrast(t, p, c.over(c.plus(top, -bottom), sum), impl.ErrNone)
		}
	}
}

func TestContrastByHand(t *testing.T) {
	// The document's example.
	wantContrast(t, pictureOf(2, 1, 3, 3, 1), 0.5, impl.ErrNone)
	wantContrast(t, pictureOf(2, 3, 1, 1, 1), 0.5, impl.ErrNone)
	wantContrast(t, pictureOf(2, 3, 1, 2, 1.5), 0.5, impl.ErrNone)
	// The sum is rounded before the quotient.
	wantContrast(t, pictureOf(2, 1<<24, 1, 1, 1), 1-0x1p-24, impl.ErrNone)
	wantContrast(t, pictureOf(2, 3*least, least, 2*least, 2*least), 0.5, impl.ErrNone)
	wantContrast(t, pictureOf(2, 0x1p127, 0x0.fffffep127, 0x1p127, 0x1p127), 0x1.000002p-24, impl.ErrNone)
	for _, side := range sides {
		wantContrast(t, even(side, 0), 0, impl.ErrState)
		wantContrast(t, signedPicture(even(side, 0)), 0, impl.ErrState)
		for _, x := range []float32{least, 1, 3, 0x1.fffffep126} {
			wantContrast(t, even(side, x), 0, impl.ErrNone)
		}
		// Top plus bottom is not finite, though top less bottom is 0.
		for _, x := range []float32{0x1p127, most} {
			wantContrast(t, even(side, x), 0, impl.ErrLimit)
		}
		for _, place := range []int64{0, side*side - 1} {
			if side > 1 {
				wantContrast(t, evenBut(side, 0, place, most), 1, impl.ErrNone)
				wantContrast(t, evenBut(side, most, place, 0), 1, impl.ErrNone)
				wantContrast(t, evenBut(side, most, place, 1), 1, impl.ErrNone)
				wantContrast(t, evenBut(side, 3, place, 1), 0.5, impl.ErrNone)
				wantContrast(t, evenBut(side, most, place, 0x1p103), 0, impl.ErrLimit)
				wantContrast(t, evenBut(side, most, place, 0x1.fffffep102), 1, impl.ErrNone)
			}
		}
	}
}

func TestDifferenceOf(t *testing.T) {
	n := numbers{79}
	for _, r := range pictureRanges {
		for round := range 16 {
			p, q := n.picture(sides[round%4], r[0], r[1]), n.picture(sides[round%4], r[0], r[1])
			c, want := calculation{}, float32(0)
			for i := range p.Side * p.Side {
				want = c.plus(want, abs(c.plus(p.Levels[i], -q.Levels[i])))
			}
			if c.limit {
				want = 0
			}
			wantDifference(t, p, q, want, c.code())
			wantDifference(t, q, p, want, c.code())
		}
	}
	wantDifference(t, pictureOf(2, 1, 3, 2, 4), pictureOf(2, 2, 1, 2, 4), 3, impl.ErrNone)
	wantDifference(t, pictureOf(2, least, 0, 0, 3*least), pictureOf(2, 0, least), 5*least, impl.ErrNone)
	// Each difference is rounded, then the sum in the order of the cells.
	wantDifference(t, pictureOf(1, 1<<25), pictureOf(1, 1), 1<<25, impl.ErrNone)
	wantDifference(t, pictureOf(2, 1<<24, 1, 0, 1), pictureOf(2, 0, 0, 1), 1<<24, impl.ErrNone)
	wantDifference(t, pictureOf(2, 1, 0, 1, 1<<24), pictureOf(2, 0, 1), 1<<24+4, impl.ErrNone)
	for _, side := range sides {
		for _, x := range []float32{0, 1, most} {
			wantDifference(t, even(side, x), even(side, x), 0, impl.ErrNone)
		}
		for place := int64(1); place < side*side; place++ {
			p := evenBut(side, 1, 0, most)
			p.Levels[place] = 0x1p103
			wantDifference(t, p, evenBut(side, 1, 0, 0), 0, impl.ErrLimit)
			wantDifference(t, evenBut(side, 1, 0, 0), p, 0, impl.ErrLimit)
			p.Levels[place] = 0x1p102
			wantDifference(t, p, evenBut(side, 1, 0, 0), most, impl.ErrNone)
		}
	}
}

func TestNegativeOf(t *testing.T) {
	n := numbers{80}
	for _, r := range pictureRanges {
		for round := range 16 {
			p := n.picture(sides[round%4], r[0], r[1])
			top, _ := topAndBottom(p)
			for _, x := range []float32{top, math.Nextafter32(top, most), max(top, abs(n.next(r[0], r[1]))), most} {
				c := calculation{}
				want := c.levels(p.Side, func(i int64) float32 { return c.plus(x, -p.Levels[i]) })
				wantNegative(t, p, x, want, c.code())
			}
			wantNegative(t, p, math.Nextafter32(top, -1), impl.Picture{}, impl.ErrRange)
		}
	}
	wantNegative(t, pictureOf(2, 1, 3, 2, 4), 4, pictureOf(2, 3, 1, 2, 0), impl.ErrNone)
	wantNegative(t, pictureOf(2, 1, 3, 2, 4), 1<<24, pictureOf(2, 1<<24-1, 1<<24-3, 1<<24-2, 1<<24-4), impl.ErrNone)
	wantNegative(t, pictureOf(2, 1, 3, 5), 1<<25, pictureOf(2, 1<<25, 1<<25-4, 1<<25-4, 1<<25), impl.ErrNone)
	for _, side := range sides {
		for _, x := range []float32{0, zeroBelow} {
			wantNegative(t, even(side, 0), x, even(side, 0), impl.ErrNone)
			wantNegative(t, signedPicture(even(side, 0)), x, even(side, 0), impl.ErrNone)
			wantNegative(t, even(side, least), x, impl.Picture{}, impl.ErrRange)
		}
		for _, x := range []float32{-least, -1, -most} {
			wantNegative(t, even(side, 0), x, impl.Picture{}, impl.ErrRange)
			wantNegative(t, even(side, 1), x, impl.Picture{}, impl.ErrRange)
		}
		for _, place := range []int64{0, side*side - 1} {
			for _, top := range []float32{2 * least, 0x1p-126, 1, 3, most} {
				p := evenBut(side, 0, place, top)
				wantNegative(t, p, top, evenBut(side, top, place, 0), impl.ErrNone)
				wantNegative(t, p, math.Nextafter32(top, 0), impl.Picture{}, impl.ErrRange)
			}
		}
		wantNegative(t, even(side, most), most, even(side, 0), impl.ErrNone)
	}
}

func TestThresholdMask(t *testing.T) {
	n := numbers{81}
	for _, r := range pictureRanges {
		for round := range 16 {
			p := n.picture(sides[round%4], r[0], r[1])
			for _, level := range p.Levels[:p.Side*p.Side] {
				for _, x := range []float32{level, math.Nextafter32(level, most), math.Nextafter32(level, -1), -level} {
					c := calculation{}
					want := c.cells(p.Side, func(i int64) complex64 { return oneIf(fraction(p.Levels[i]).Cmp(fraction(x)) >= 0) })
					wantThreshold(t, p, x, want, impl.ErrNone)
				}
			}
		}
	}
	wantThreshold(t, pictureOf(2, 1, 3, 2, 4), 3, waveOf(2, 0, 1, 0, 1), impl.ErrNone)
	for _, side := range sides {
		for _, x := range []float32{0, zeroBelow, -least, -1, -most} {
			wantThreshold(t, even(side, 0), x, flat(side, 1), impl.ErrNone)
			wantThreshold(t, signedPicture(even(side, 0)), x, flat(side, 1), impl.ErrNone)
			wantThreshold(t, even(side, most), x, flat(side, 1), impl.ErrNone)
		}
		wantThreshold(t, even(side, 0), least, flat(side, 0), impl.ErrNone)
		wantThreshold(t, even(side, most), most, flat(side, 1), impl.ErrNone)
		wantThreshold(t, evenBut(side, most, side*side-1, 0x1.fffffcp127), most, waveButLast(side), impl.ErrNone)
	}
}

// Differences and sums of pictures, of which one or both are none, or of different sides.
func TestErrorsOfPairsOfPictures(t *testing.T) {
	for _, bad := range noPictures() {
		for _, good := range []impl.Picture{even(1, 0), even(4, most), even(8, 1), bad} {
			wantAdded(t, bad, good, impl.Picture{}, impl.ErrInvalid)
			wantAdded(t, good, bad, impl.Picture{}, impl.ErrInvalid)
			wantDifference(t, bad, good, 0, impl.ErrInvalid)
			wantDifference(t, good, bad, 0, impl.ErrInvalid)
		}
	}
	for _, a := range sides {
		for _, b := range sides {
			if a != b {
				wantAdded(t, even(a, most), even(b, most), impl.Picture{}, impl.ErrRange)
				wantDifference(t, even(a, most), even(b, 0), 0, impl.ErrRange)
				wantDifference(t, even(a, 0), even(b, 0), 0, impl.ErrRange)
			}
		}
	}
}

// No picture, and no number, come before what is not in its range and before a top of 0.
func TestErrorsOfPictures(t *testing.T) {
	for _, bad := range noPictures() {
		wantNormed(t, bad, impl.Picture{}, impl.ErrInvalid)
		wantContrast(t, bad, 0, impl.ErrInvalid)
		for _, x := range []float32{0, 1, -1, most, -least, nan, inf, -inf} {
			wantScaled(t, x, bad, impl.Picture{}, impl.ErrInvalid)
			wantNegative(t, bad, x, impl.Picture{}, impl.ErrInvalid)
			wantThreshold(t, bad, x, impl.Wave{}, impl.ErrInvalid)
		}
	}
	for _, side := range sides {
		for _, level := range []float32{0, 1, most} {
			for _, x := range []float32{nan, -nan, inf, -inf} {
				wantScaled(t, x, even(side, level), impl.Picture{}, impl.ErrInvalid)
				wantNegative(t, even(side, level), x, impl.Picture{}, impl.ErrInvalid)
				wantThreshold(t, even(side, level), x, impl.Wave{}, impl.ErrInvalid)
			}
		}
	}
}
