package tests

import (
	"slices"
	"testing"

	"loop.example/g01225/impl"
)

// scanRanges are sizes of cells of objects with sizes of those of probes.
var scanRanges = [][4]int{
	{-3, 3, -3, 3}, {-20, 20, -20, 20}, {-149, -120, -3, 10}, {-90, -60, -90, -60}, {-149, -149, 20, 60},
	{-3, 3, -80, -70}, {-80, -70, 60, 63}, {25, 32, 25, 32}, {0, 3, 58, 63}, {55, 66, 55, 66}, {120, 127, -10, 3},
}

// forSides calls a function for each side of an object and each side of a probe up to it.
func forSides(use func(n, m int64)) {
	for _, n := range sides {
		for _, m := range sides {
			if m <= n {
				use(n, m)
			}
		}
	}
}

// wantPatch compares a patch with a wave and a code.
func wantPatch(t *testing.T, o impl.Wave, m int64, at impl.Place, want impl.Wave, wantCode int64) {
	t.Helper()
	got, code := impl.PatchOf(o, m, at)
	wantWave(t, "PatchOf", got, code, want, wantCode)
}

// wantExit compares an exit wave with a wave and a code.
func wantExit(t *testing.T, o, p impl.Wave, at impl.Place, want impl.Wave, wantCode int64) {
	t.Helper()
	if wantCode != impl.ErrNone {
		want = impl.Wave{}
	}
	got, code := impl.ExitWave(o, p, at)
	wantWave(t, "ExitWave", got, code, want, wantCode)
}

// wantPictureAt compares the picture at a place with a picture and a code.
func wantPictureAt(t *testing.T, o, p impl.Wave, at impl.Place, want impl.Picture, wantCode int64) {
	t.Helper()
	if wantCode != impl.ErrNone {
		want = impl.Picture{}
	}
	got, code := impl.PictureAt(o, p, at)
	wantPicture(t, "PictureAt", got, code, want, wantCode)
}

// wantScan compares the pictures of places with a list and a code.
func wantScan(t *testing.T, o, p impl.Wave, places []impl.Place, want []impl.Picture, wantCode int64) {
	t.Helper()
	got, code := impl.ScanPictures(o, p, places)
	if !slices.Equal(got, want) || code != wantCode {
		t.Errorf("ScanPictures(%v, %v, %v) = %v, %d; want %v, %d", o, p, places, got, code, want, wantCode)
	}
}

// numbered returns the wave of a side with the numbers of the cells from 1 on.
func numbered(side int64) impl.Wave {
	w := impl.Wave{Side: side}
	for i := range side * side {
		w.Cells[i] = complex(float32(i+1), -float32(i))
	}
	return w
}

func TestConstantsOfScans(t *testing.T) {
	if impl.MaxPlaces != 20 || impl.MaxPasses != 8 {
		t.Errorf("MaxPlaces = %d, MaxPasses = %d", impl.MaxPlaces, impl.MaxPasses)
	}
}

func TestPatchOf(t *testing.T) {
	forSides(func(n, m int64) {
		o := numbered(n)
		for _, at := range allPlaces(n) {
			wantPatch(t, o, m, at, exactPatch(o, m, at), impl.ErrNone)
			wantPatch(t, flat(n, complex(-most, least)), m, at, flat(m, complex(-most, least)), impl.ErrNone)
		}
		wantPatch(t, o, n, impl.Place{}, o, impl.ErrNone)
		wantPatch(t, o, 1, impl.Place{Row: n - 1, Column: n - 1}, waveOf(1, o.Cells[n*n-1]), impl.ErrNone)
	})
}

func TestPatchesByHand(t *testing.T) {
	o := waveOf(4, 1, 2, 3, 4, 5, 6, 7, 8, 9, 10, 11, 12, 13, 14, 15, 16i)
	wantPatch(t, o, 2, impl.Place{Row: 1, Column: 2}, waveOf(2, 7, 8, 11, 12), impl.ErrNone)
	wantPatch(t, o, 2, impl.Place{Row: 1, Column: 3}, waveOf(2, 8, 5, 12, 9), impl.ErrNone)
	wantPatch(t, o, 2, impl.Place{Row: 3, Column: 1}, waveOf(2, 14, 15, 2, 3), impl.ErrNone)
	wantPatch(t, o, 2, impl.Place{Row: 3, Column: 3}, waveOf(2, 16i, 13, 4, 1), impl.ErrNone)
	wantPatch(t, o, 1, impl.Place{Row: 3}, waveOf(1, 13), impl.ErrNone)
	whole := waveOf(4, 15, 16i, 13, 14, 3, 4, 1, 2, 7, 8, 5, 6, 11, 12, 9, 10)
	wantPatch(t, o, 4, impl.Place{Row: 3, Column: 2}, whole, impl.ErrNone)
	wantPatch(t, waveOf(2, 1, 2, 3, 4), 2, impl.Place{Column: 1}, waveOf(2, 2, 1, 4, 3), impl.ErrNone)
	wantPatch(t, waveOf(1, 5-1i), 1, impl.Place{}, waveOf(1, 5-1i), impl.ErrNone)
	corner, _ := impl.PatchOf(numbered(8), 4, impl.Place{Row: 6, Column: 5})
	if corner.Cells[0] != 54-53i || corner.Cells[3] != 49-48i || corner.Cells[8] != 6-5i || corner.Cells[15] != 9-8i {
		t.Errorf("the patch at the corner is %v", corner)
	}
}

func TestExitWave(t *testing.T) {
	n := numbers{350}
	for _, r := range scanRanges {
		forSides(func(side, m int64) {
			o, p := n.wave(side, r[0], r[1]), n.wave(m, r[2], r[3])
			for _, at := range n.places(side, 4) {
				c := calculation{}
				want := c.exit(o, p, at)
				wantExit(t, o, p, at, want, c.code())
			}
		})
	}
	for _, known := range products {
		want, code := waveOf(1, known.want), int64(impl.ErrNone)
		if !impl.IsWave(want) {
			code = impl.ErrLimit
		}
		wantExit(t, waveBut(2, most, 2, known.a), waveOf(1, known.b), impl.Place{Row: 1}, want, code)
		wantExit(t, waveBut(2, most, 2, known.b), waveOf(1, known.a), impl.Place{Row: 1}, want, code)
	}
}

func TestExitWavesByHand(t *testing.T) {
	o := waveOf(4, 1, 2, 3, 4, 5, 6, 7, 8, 9, 10, 11, 12, 13, 14, 15, 16i)
	p := waveOf(2, 1i, 2, -1, 1+1i)
	wantExit(t, o, p, impl.Place{}, waveOf(2, 1i, 4, -5, 6+6i), impl.ErrNone)
	wantExit(t, o, p, impl.Place{Row: 3, Column: 3}, waveOf(2, -16, 26, -4, 1+1i), impl.ErrNone)
	wantExit(t, o, p, impl.Place{Row: 2, Column: 3}, waveOf(2, 12i, 18, -16i, 13+13i), impl.ErrNone)
	wantExit(t, waveOf(1, 3i), waveOf(1, 2i), impl.Place{}, waveOf(1, -6), impl.ErrNone)
	wantExit(t, o, flat(4, 0), impl.Place{Row: 2, Column: 1}, flat(4, 0), impl.ErrNone)
	wantExit(t, flat(8, 0), flat(8, most), impl.Place{Row: 7, Column: 7}, flat(8, 0), impl.ErrNone)
	wantExit(t, waveOf(1, complex(least, 0)), waveOf(1, 0.5i), impl.Place{}, waveOf(1, 0), impl.ErrNone)
	wantExit(t, waveOf(1, complex(3*least, 0)), waveOf(1, 0.5i), impl.Place{}, waveOf(1, complex(0, 2*least)), impl.ErrNone)
}

func TestPictureAt(t *testing.T) {
	n, codes := numbers{351}, map[int64]int{}
	for _, r := range scanRanges {
		forSides(func(side, m int64) {
			o, p := n.wave(side, r[0], r[1]), n.wave(m, r[2], r[3])
			at := n.places(side, 1)[0]
			c := calculation{}
			want := c.pictureAt(o, p, at)
			wantPictureAt(t, o, p, at, want, c.code())
			codes[c.code()]++
		})
	}
	if codes[impl.ErrNone] < 60 || codes[impl.ErrLimit] < 10 {
		t.Errorf("codes of pictures: %v", codes)
	}
}

func TestPicturesAtPlacesByHand(t *testing.T) {
	// The exit wave 1, 2, 3, 4 has the spectrum 10, -2, -4, 0.
	p := waveOf(2, 1, 0.5, 3, 2)
	o := waveOf(4, 2, 0, 0, 1, 0, 0, 0, 0, 0, 0, 0, 0, 4, 0, 0, 1)
	wantPictureAt(t, o, p, impl.Place{Row: 3, Column: 3}, pictureOf(2, 100, 4, 16, 0), impl.ErrNone)
	wantPictureAt(t, waveOf(2, 1, 4, 1, 2), p, impl.Place{}, pictureOf(2, 100, 4, 16, 0), impl.ErrNone)
	wantPictureAt(t, waveOf(2, 1i, 4i, 1i, 2i), p, impl.Place{}, pictureOf(2, 100, 4, 16, 0), impl.ErrNone)
	wantPictureAt(t, waveOf(2, 2, 1, 4, 1), p, impl.Place{Row: 1, Column: 1}, pictureOf(2, 100, 4, 16, 0), impl.ErrNone)
	wantPictureAt(t, waveOf(1, 3), waveOf(1, 1+2i), impl.Place{}, pictureOf(1, 45), impl.ErrNone)
	for _, side := range sides {
		wantPictureAt(t, waveOf(side, 3), waveOf(side, -1i), impl.Place{}, even(side, 9), impl.ErrNone)
		wantPictureAt(t, flat(side, 3), flat(side, 0), impl.Place{Row: side - 1}, even(side, 0), impl.ErrNone)
		wantPictureAt(t, flat(side, complex(least, 0)), flat(side, complex(0, least)), impl.Place{}, even(side, 0), impl.ErrNone)
		wantPictureAt(t, flat(side, 0x1p-75), waveOf(side, 1.5), impl.Place{}, even(side, least), impl.ErrNone)
		wantPictureAt(t, flat(side, 0x1p-75), waveOf(side, 1), impl.Place{}, even(side, 0), impl.ErrNone)
	}
}

// What is not finite arises in a product, in a sum of the transform, or in a square, for the first
// or the last cell of the patch; cells beside it do not matter.
func TestLimitsOfPicturesAtPlaces(t *testing.T) {
	forSides(func(n, m int64) {
		at := impl.Place{Row: n - 1, Column: n - 1}
		cells := cellsOfPatch(n, m, at)
		for _, place := range []int64{0, m*m - 1} {
			for _, known := range []struct {
				o, p     complex64
				exitCode int64
				code     int64
			}{
				{0x1p64, 0x1p64i, impl.ErrLimit, impl.ErrLimit},
				{complex(-most, most), complex(1, 1), impl.ErrLimit, impl.ErrLimit},
				{most, -1i, impl.ErrNone, impl.ErrLimit},
				{0x1p32, 0x1p32, impl.ErrNone, impl.ErrLimit},
				{0x1p127, 0x1p-63, impl.ErrNone, impl.ErrLimit},
				{0x1p127, 0x1.fffffep-65, impl.ErrNone, impl.ErrNone},
				{most, 0x1p-65, impl.ErrNone, impl.ErrNone},
				{0x1p-65i, -most, impl.ErrNone, impl.ErrNone},
			} {
				o, p := flat(n, 0), waveBut(m, 0, place, known.p)
				o.Cells[cells[place]] = known.o
				exit := waveBut(m, 0, place, exactProduct(known.p, known.o))
				wantExit(t, o, p, at, exit, known.exitCode)
				wantPictureAt(t, o, p, at, exactPictureAt(o, p, at), known.code)
				// The probe misses what is great.
				p.Cells[place] = 0
				wantPictureAt(t, o, p, at, even(m, 0), impl.ErrNone)
			}
		}
		// Cells of the object beside the patch may be great.
		o := flat(n, most)
		for _, cell := range cells {
			o.Cells[cell] = 0
		}
		wantExit(t, o, flat(m, most), at, flat(m, 0), impl.ErrNone)
		// Only the sum of cells is too great.
		if m > 1 {
			pair := waveOf(m, 1, 1)
			wantPictureAt(t, flat(n, 0x1p63), pair, at, impl.Picture{}, impl.ErrLimit)
			wantPictureAt(t, flat(n, 0x1p62), pair, at, exactPictureAt(flat(n, 0x1p62), pair, at), impl.ErrNone)
			wantExit(t, flat(n, 0x1p127), flat(m, 1), at, flat(m, 0x1p127), impl.ErrNone)
			wantPictureAt(t, flat(n, 0x1p127), flat(m, 1), at, impl.Picture{}, impl.ErrLimit)
		}
	})
}

// exactPictureAt returns the exact picture at a place.
func exactPictureAt(o, p impl.Wave, at impl.Place) impl.Picture {
	c := calculation{}
	return c.pictureAt(o, p, at)
}

func TestScanPictures(t *testing.T) {
	n, codes := numbers{352}, map[int64]int{}
	for _, r := range scanRanges {
		forSides(func(side, m int64) {
			if m == 8 {
				return
			}
			o, p, places := n.wave(side, r[0], r[1]), n.wave(m, r[2], r[3]), n.places(side, int(n.bits()%5))
			c := calculation{}
			want, code := c.picturesAt(o, p, places)
			wantScan(t, o, p, places, want, code)
			codes[code]++
		})
	}
	if codes[impl.ErrNone] < 60 || codes[impl.ErrLimit] < 5 {
		t.Errorf("codes of scans: %v", codes)
	}
}

// Lists of no places, of one and of 20 are in order, also where places occur several times.
func TestOrderOfScans(t *testing.T) {
	n := numbers{353}
	forSides(func(side, m int64) {
		o, p := n.wave(side, -3, 3), n.wave(m, -3, 3)
		lists := [][]impl.Place{
			nil, {}, n.places(side, 1), n.places(side, 2), n.places(side, 19), n.places(side, 20),
			slices.Repeat(n.places(side, 1), 20), slices.Repeat(n.places(side, 2), 7),
		}
		for _, places := range lists {
			var want []impl.Picture
			for _, at := range places {
				picture, code := impl.PictureAt(o, p, at)
				wantNone(t, "PictureAt", code)
				want = append(want, picture)
			}
			wantScan(t, o, p, places, want, impl.ErrNone)
		}
	})
	o := waveOf(2, 1, 2, 3, 4)
	places := []impl.Place{{Row: 1}, {Column: 1}, {Row: 1}, {}, {Row: 1, Column: 1}}
	want := []impl.Picture{pictureOf(1, 36), pictureOf(1, 16), pictureOf(1, 36), pictureOf(1, 4), pictureOf(1, 64)}
	wantScan(t, o, waveOf(1, 2i), places, want, impl.ErrNone)
}

// One place at which something arises that is not finite is enough, wherever it is in the list.
func TestLimitsOfScans(t *testing.T) {
	forSides(func(n, m int64) {
		if n == m {
			return
		}
		o := waveOf(n, 0x1p64)
		p := waveOf(m, 1)
		for _, count := range []int{1, 2, 20} {
			places := slices.Repeat([]impl.Place{{Row: n - 1, Column: n - 1}}, count)
			wantScan(t, o, p, places, slices.Repeat([]impl.Picture{even(m, 0)}, count), impl.ErrNone)
			for place := range count {
				list := slices.Clone(places)
				list[place] = impl.Place{}
				wantScan(t, o, p, list, nil, impl.ErrLimit)
			}
		}
		wantScan(t, flat(n, most), flat(m, most), nil, nil, impl.ErrNone)
	})
}
