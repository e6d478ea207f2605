package tests

import (
	"slices"
	"testing"

	"loop.example/g01225/impl"
)

// wantFour compares the four pictures of o and r with a list and a code.
func wantFour(t *testing.T, o, r impl.Wave, want []impl.Picture, wantCode int64) {
	t.Helper()
	if wantCode != impl.ErrNone {
		want = nil
	}
	if list, code := impl.FourPictures(o, r); !slices.Equal(list, want) || code != wantCode {
		t.Errorf("FourPictures(%v, %v) = %v, %d; want %v, %d", o, r, list, code, want, wantCode)
	}
}

// wantFringes compares the fringe map of pictures with a list and a code.
func wantFringes(t *testing.T, pictures []impl.Picture, want []int64, wantCode int64) {
	t.Helper()
	list, code := impl.FringeMap(pictures)
	wantMap(t, "FringeMap", list, code, want, wantCode)
}

// wantExactFringes compares the fringe map of pictures with what exact fractions tell, and returns
// the code.
func wantExactFringes(t *testing.T, pictures []impl.Picture) int64 {
	t.Helper()
	c := calculation{}
	want := c.fringes(pictures)
	wantFringes(t, pictures, want, c.code())
	return c.code()
}

func TestFourPictures(t *testing.T) {
	n, codes := numbers{310}, map[int64]int{}
	for _, r := range append(ranges, [2]int{-76, -73}, [2]int{61, 63}, [2]int{-149, -149}) {
		for round := range 8 {
			o, ref := n.wave(sides[round%4], r[0], r[1]), n.wave(sides[round%4], r[0], r[1])
			c := calculation{}
			want := c.fourPictures(o, ref)
			wantFour(t, o, ref, want, c.code())
			codes[c.code()]++
		}
	}
	if codes[impl.ErrNone] < 40 || codes[impl.ErrLimit] < 10 {
		t.Errorf("codes of four pictures: %v", codes)
	}
}

func TestFourPicturesByHand(t *testing.T) {
	one := func(levels ...float32) (list []impl.Picture) {
		for _, level := range levels {
			list = append(list, pictureOf(1, level))
		}
		return list
	}
	wantFour(t, waveOf(1, 1i), waveOf(1, 1), one(2, 4, 2, 0), impl.ErrNone)
	wantFour(t, waveOf(1, 1), waveOf(1, 1i), one(2, 0, 2, 4), impl.ErrNone)
	wantFour(t, waveOf(1, 3+4i), waveOf(1, 1-2i), one(20, 50, 40, 10), impl.ErrNone)
	wantFour(t, waveOf(1, 0), waveOf(1, 1-2i), one(5, 5, 5, 5), impl.ErrNone)
	wantFour(t, waveOf(1, 1-2i), waveOf(1, minusZero), one(5, 5, 5, 5), impl.ErrNone)
	// The sums are rounded before their squares.
	wantFour(t, waveOf(1, 1<<24), waveOf(1, 1), one(1<<48, 1<<48, 0xffffffp0*0xffffffp0, 1<<48), impl.ErrNone)
	wantFour(t, waveOf(1, 0x1p-75), waveOf(1, 0x1p-75), one(0x1p-148, least, 0, least), impl.ErrNone)
	wantFour(t, waveOf(1, least), waveOf(1, least), one(0, 0, 0, 0), impl.ErrNone)
	w := waveOf(2, 1, -1, 1i, -1i)
	wantFour(t, w, flat(2, 1), []impl.Picture{
		pictureOf(2, 4, 0, 2, 2), pictureOf(2, 2, 2, 4, 0), pictureOf(2, 0, 4, 2, 2), pictureOf(2, 2, 2, 0, 4),
	}, impl.ErrNone)
	// All further levels are 0, also with zeros of negative sign beyond the side.
	list, code := impl.FourPictures(signed(w), signed(flat(2, 1)))
	wantNone(t, "FourPictures", code)
	for _, p := range list {
		if !impl.IsPicture(p) || slices.ContainsFunc(p.Levels[4:], func(x float32) bool { return x != 0 }) {
			t.Errorf("%v is no picture of the side 2", p)
		}
	}
}

// One picture with a level that is not finite is enough, whichever it is.
func TestLimitsOfFourPictures(t *testing.T) {
	for _, side := range sides {
		for _, place := range []int64{0, side*side - 1} {
			for turns, turn := range []complex64{1, -1i, -1, 1i} {
				o, r := waveBut(side, 1, place, 0x1p63), waveBut(side, 1, place, 0x1p63*turn)
				wantFour(t, o, r, nil, impl.ErrLimit)
				finite := 0
				for later := range 4 {
					turned := turnedBy(r, func(z complex64) complex64 { return z * []complex64{1, 1i, -1, -1i}[later] })
					_, code := impl.RecordHologram(o, turned)
					if code == impl.ErrNone {
						finite++
					} else if later != turns {
						t.Errorf("the record %d instead of %d is not finite", later, turns)
					}
				}
				if finite != 3 {
					t.Errorf("%d records are finite", finite)
				}
				// Of this size all are.
				o.Cells[place], r.Cells[place] = 0x1p62, 0x1p62*turn
				c := calculation{}
				want := c.fourPictures(o, r)
				wantFour(t, o, r, want, impl.ErrNone)
				// Here the sum already is not finite.
				o.Cells[place], r.Cells[place] = most, 0x1p103*turn
				wantFour(t, o, r, nil, impl.ErrLimit)
			}
		}
		wantFour(t, flat(side, most), flat(side, most), nil, impl.ErrLimit)
		wantFour(t, flat(side, 0), flat(side, 0x1p64), nil, impl.ErrLimit)
	}
}

// someFour makes a wave of four pictures, which is the zero value if there are none.
func someFour(o, r impl.Wave) (impl.Wave, int64) {
	list, code := impl.FourPictures(o, r)
	if len(list) == 0 {
		return impl.Wave{}, code
	}
	return flat(8, 1), code
}

func TestErrorsOfFourPictures(t *testing.T) {
	wantPairErrors(t, "FourPictures", someFour)
	for _, a := range sides {
		for _, b := range sides {
			if a != b {
				wantFour(t, flat(a, 1), flat(b, 1), nil, impl.ErrRange)
			}
		}
		for _, z := range noComplex {
			wantFour(t, waveBut(a, 1, a*a-1, z), flat(9-a, 1), nil, impl.ErrInvalid)
			wantFour(t, flat(a, most), waveBut(a, 1, 0, z), nil, impl.ErrInvalid)
		}
	}
}

func TestFringeMap(t *testing.T) {
	n, codes := numbers{311}, map[int64]int{}
	for _, r := range append(pictureRanges, [2]int{127, 127}, [2]int{-149, 127}) {
		for round := range 9 {
			side := sides[round%3]
			var list []impl.Picture
			for range 4 {
				list = append(list, n.picture(side, r[0], r[1]))
			}
			codes[wantExactFringes(t, list)]++
		}
	}
	if codes[impl.ErrNone] < 60 || codes[impl.ErrLimit] < 3 {
		t.Errorf("codes of fringe maps: %v", codes)
	}
	wantExactFringes(t, []impl.Picture{n.picture(8, -3, 3), n.picture(8, -3, 3), n.picture(8, -3, 3), n.picture(8, -3, 3)})
}

// levelsOf returns four pictures of a side with levels 0 but for one cell.
func levelsOf(side, place int64, levels [4]float32) []impl.Picture {
	var list []impl.Picture
	for _, level := range levels {
		list = append(list, evenBut(side, 0, place, level))
	}
	return list
}

func TestFringeMapsByHand(t *testing.T) {
	for _, side := range sides {
		for place := range side * side {
			for _, known := range []struct {
				levels [4]float32
				part   int64
			}{
				{[4]float32{2, 4, 2, 0}, 16},
				{[4]float32{4, 2, 0, 2}, 0},
				{[4]float32{2, 0, 2, 4}, 48},
				{[4]float32{0, 2, 4, 2}, 32},
				{[4]float32{5, 7, 3, 5}, 8},
				{[4]float32{0, 0, 1, 1}, 40},
				{[4]float32{0, 1, 1, 0}, 24},
				{[4]float32{1, 0, 0, 1}, 56},
				{[4]float32{7, 9, 7, 9}, 0},
				{[4]float32{most, 1, most, 0}, 16},
				{[4]float32{most, most, most, most}, 0},
				{[4]float32{0, 0, most, 0}, 32},
				{[4]float32{0, least, 0, 0}, 6},
				{[4]float32{3 * least, 0, 4 * least, 0}, 22},
				{[4]float32{zeroBelow, zeroBelow, 0, 0}, 0},
				// What is lost when a difference is rounded is lost for the part, too.
				{[4]float32{1 << 25, 1 << 25, 1, 1}, 8},
				{[4]float32{0, 3, 1 << 25, 1}, 32},
			} {
				want := heightsBut(side, 0, place, known.part)
				wantFringes(t, levelsOf(side, place, known.levels), want, impl.ErrNone)
			}
			for _, levels := range [][4]float32{{most, most, 0, 0}, {0, 0, most, most}, {0, most, most, 0}, {0x1.6bp127, 1, 1, 0x1.6bp127}} {
				wantFringes(t, levelsOf(side, place, levels), nil, impl.ErrLimit)
			}
		}
		zeros := slices.Repeat([]impl.Picture{signedPicture(even(side, 0))}, 4)
		wantFringes(t, zeros, make([]int64, side*side), impl.ErrNone)
	}
}

// A difference is rounded before the products: without this the part beside would be nearest.
func TestDifferencesOfFringesAreRounded(t *testing.T) {
	wantFringes(t, levelsOf(1, 0, [4]float32{0x1.fec46cp-1, 0x1.917b26p-5, 0x1.d55844p-24, 0x1.16e8f8p-24}), []int64{0}, impl.ErrNone)
	wantFringes(t, levelsOf(1, 0, [4]float32{0x1.fec46cp-1, 0x1.917b4p-5, 0x1.7cf6b8p-26, 0x1.08a9cap-26}), []int64{1}, impl.ErrNone)
	wantFringes(t, levelsOf(2, 3, [4]float32{0x1.f9d92cp-1, 0x1.2c2458p-3, 0x1.d96f6cp-25, 0x1.068ee6p-24}), []int64{0, 0, 0, 2}, impl.ErrNone)
	n := numbers{312}
	for k := range int64(64) {
		for _, z := range aroundBorder(k, (k+1)%64)[6:11] {
			x, y := abs(n.next(-26, -24)), abs(n.next(-26, -24))
			levels := [4]float32{abs(real(z)), abs(imag(z)), x, y}
			if real(z) < 0 {
				levels[0], levels[2] = levels[2], levels[0]
			}
			if imag(z) < 0 {
				levels[1], levels[3] = levels[3], levels[1]
			}
			wantExactFringes(t, levelsOf(1, 0, levels))
		}
	}
}

func TestErrorsOfFringeMap(t *testing.T) {
	for _, bad := range noPictures() {
		for place := range 4 {
			list := slices.Repeat([]impl.Picture{even(4, most)}, 4)
			list[place] = bad
			wantFringes(t, list, nil, impl.ErrInvalid)
			// Also beside different sides, and in lists that are too short or too long.
			list[(place+1)%4] = even(2, 1)
			wantFringes(t, list, nil, impl.ErrInvalid)
			wantFringes(t, list[place:place+1], nil, impl.ErrInvalid)
			wantFringes(t, slices.Concat(list, list[:1]), nil, impl.ErrInvalid)
		}
		wantFringes(t, append(slices.Repeat([]impl.Picture{even(2, 1)}, 4), bad), nil, impl.ErrInvalid)
		wantFringes(t, slices.Repeat([]impl.Picture{bad}, 4), nil, impl.ErrInvalid)
	}
	for _, side := range sides {
		for _, level := range []float32{0, 1, most} {
			for _, count := range []int{0, 1, 2, 3, 5, 6, 8, 16, 64} {
				wantFringes(t, slices.Repeat([]impl.Picture{even(side, level)}, count), nil, impl.ErrRange)
			}
			for place := range 4 {
				for _, other := range sides {
					list := slices.Repeat([]impl.Picture{even(side, level)}, 4)
					list[place] = even(other, most)
					if other != side {
						wantFringes(t, list, nil, impl.ErrRange)
					}
				}
			}
		}
		wantFringes(t, []impl.Picture{even(side, most), even(side, most), even(side, 0), even(side, 0)}, nil, impl.ErrLimit)
		wantFringes(t, []impl.Picture{even(side, most), even(side, most), even(side, 0)}, nil, impl.ErrRange)
	}
	wantFringes(t, nil, nil, impl.ErrRange)
	wantFringes(t, []impl.Picture{}, nil, impl.ErrRange)
}
