package tests

import (
	"testing"

	"loop.example/g01225/impl"
)

// wantPicture compares what a function returns with a picture and a code.
func wantPicture(t *testing.T, name string, p impl.Picture, code int64, want impl.Picture, wantCode int64) {
	t.Helper()
	if wantCode != impl.ErrNone {
		want = impl.Picture{}
	}
	if p != want || code != wantCode {
		t.Errorf("%s = %v, %d; want %v, %d", name, p, code, want, wantCode)
	}
}

// wantRecord compares the record of o with r with a picture and a code.
func wantRecord(t *testing.T, o, r impl.Wave, want impl.Picture, wantCode int64) {
	t.Helper()
	p, code := impl.RecordHologram(o, r)
	wantPicture(t, "RecordHologram", p, code, want, wantCode)
}

// wantParts compares the parts of the record of o with r with a picture, two waves and a code.
func wantParts(t *testing.T, o, r impl.Wave, p impl.Picture, a, b impl.Wave, wantCode int64) {
	t.Helper()
	if wantCode != impl.ErrNone {
		p, a, b = impl.Picture{}, impl.Wave{}, impl.Wave{}
	}
	gotP, gotA, gotB, code := impl.PartsOfRecord(o, r)
	if gotP != p || gotA != a || gotB != b || code != wantCode {
		t.Errorf("PartsOfRecord(%v, %v) = %v, %v, %v, %d; want %v, %v, %v, %d", o, r, gotP, gotA, gotB, code, p, a, b, wantCode)
	}
}

// wantBlockMean compares the block mean of a wave with a wave and a code.
func wantBlockMean(t *testing.T, w, want impl.Wave, wantCode int64) {
	t.Helper()
	if wantCode != impl.ErrNone {
		want = impl.Wave{}
	}
	got, code := impl.BlockMean(w)
	wantWave(t, "BlockMean", got, code, want, wantCode)
}

// wantLook compares the look at a picture with a wave and a code.
func wantLook(t *testing.T, p impl.Picture, w, want impl.Wave, wantCode int64) {
	t.Helper()
	if wantCode != impl.ErrNone {
		want = impl.Wave{}
	}
	got, code := impl.LookAt(p, w)
	wantWave(t, "LookAt", got, code, want, wantCode)
}

// inPicture takes the picture of a function of two waves for a wave.
func inPicture(f func(o, r impl.Wave) (impl.Picture, int64)) pairFunction {
	return func(o, r impl.Wave) (impl.Wave, int64) {
		p, code := f(o, r)
		w := impl.Wave{Side: p.Side}
		for i, level := range p.Levels {
			w.Cells[i] = complex(level, 0)
		}
		return w, code
	}
}

func TestMaxStep(t *testing.T) {
	if impl.MaxStep != 256 {
		t.Errorf("MaxStep = %d", impl.MaxStep)
	}
}

func TestRecordHologram(t *testing.T) {
	n := numbers{70}
	for _, r := range append(ranges, [2]int{-76, -73}, [2]int{61, 63}) {
		for round := range 16 {
			o, ref := n.wave(sides[round%4], r[0], r[1]), n.wave(sides[round%4], r[0], r[1])
			c := calculation{}
			want := c.record(o, ref)
			wantRecord(t, o, ref, want, c.code())
		}
	}
}

func TestRecordsByHand(t *testing.T) {
	wantRecord(t, waveOf(1, 3), waveOf(1, -4i), pictureOf(1, 25), impl.ErrNone)
	wantRecord(t, waveOf(2, 1, 1i, 0, 2), flat(2, 1), pictureOf(2, 4, 2, 1, 9), impl.ErrNone)
	// The sum is rounded before its square, and this only then.
	wantRecord(t, waveOf(1, 1<<24), waveOf(1, 1), pictureOf(1, 1<<48), impl.ErrNone)
	wantRecord(t, waveOf(1, 4096), waveOf(1, 1+1i), pictureOf(1, 1<<24+1<<13+2), impl.ErrNone)
	wantRecord(t, waveOf(1, 0x1p-75), waveOf(1, 0x1p-75i), pictureOf(1, least), impl.ErrNone)
	wantRecord(t, waveOf(1, least), waveOf(1, least), pictureOf(1, 0), impl.ErrNone)
	wantRecord(t, waveOf(1, 0x1p-149), waveOf(1, 0x1p-74), pictureOf(1, 0x1p-148), impl.ErrNone)
	wantRecord(t, waveOf(1, complex(0x1.fffffep63, 0)), waveOf(1, complex(0, 0x1.3p52)), pictureOf(1, most), impl.ErrNone)
	for _, side := range sides {
		wantRecord(t, flat(side, complex(most, -most)), flat(side, complex(-most, most)), even(side, 0), impl.ErrNone)
		for _, place := range []int64{0, side*side - 1} {
			o, r := flat(side, 1), flat(side, 1)
			// The square, or the sum already, is the first thing that is not finite.
			o.Cells[place], r.Cells[place] = 0x1p63i, 0x1p63i
			wantRecord(t, o, r, impl.Picture{}, impl.ErrLimit)
			o.Cells[place], r.Cells[place] = complex(0, -most), complex(0, -0x1p103)
			wantRecord(t, o, r, impl.Picture{}, impl.ErrLimit)
			o.Cells[place], r.Cells[place] = 0x1p62, 0x1p62
			wantRecord(t, o, r, evenBut(side, 4, place, 0x1p126), impl.ErrNone)
		}
	}
}

// someParts makes one wave of the parts of a record, which is the zero value if all of them are.
func someParts(o, r impl.Wave) (impl.Wave, int64) {
	p, a, b, code := impl.PartsOfRecord(o, r)
	if p == (impl.Picture{}) && a == (impl.Wave{}) && b == (impl.Wave{}) {
		return impl.Wave{}, code
	}
	return flat(8, 1), code
}

func TestErrorsOfRecords(t *testing.T) {
	wantPairErrors(t, "RecordHologram", inPicture(impl.RecordHologram))
	wantPairErrors(t, "PartsOfRecord", someParts)
}

func TestLookAt(t *testing.T) {
	n := numbers{71}
	for _, r := range append(ranges, [2]int{-76, -73}, [2]int{61, 63}) {
		for round := range 16 {
			p, w := n.picture(sides[round%4], r[0], r[1]), n.wave(sides[round%4], r[0], r[1])
			c := calculation{}
			want := c.cells(w.Side, func(i int64) complex64 { return c.scaled(p.Levels[i], w.Cells[i]) })
			wantLook(t, p, w, want, c.code())
		}
	}
	wantLook(t, pictureOf(2, 1, 2, 3, 4), waveOf(2, 1, 1i, 0, -2-1i), waveOf(2, 1, 2i, 0, -8-4i), impl.ErrNone)
	wantLook(t, pictureOf(1, 0.5), waveOf(1, complex(3*least, -least)), waveOf(1, 2*least), impl.ErrNone)
	wantLook(t, pictureOf(1, most), waveOf(1, complex(least, -1)), waveOf(1, complex(0x1.fffffep-22, -most)), impl.ErrNone)
	for _, side := range sides {
		wantLook(t, even(side, 0), flat(side, complex(most, -most)), flat(side, 0), impl.ErrNone)
		for _, place := range []int64{0, side*side - 1} {
			w := flat(side, 2i)
			wantLook(t, evenBut(side, 1, place, 0x1p127), w, impl.Wave{}, impl.ErrLimit)
			w.Cells[place] = complex(-most, 0)
			wantLook(t, even(side, 1+0x1p-23), w, impl.Wave{}, impl.ErrLimit)
			wantLook(t, even(side, 1), w, w, impl.ErrNone)
		}
	}
}

func TestErrorsOfLookAt(t *testing.T) {
	for _, bad := range noPictures() {
		for _, w := range []impl.Wave{flat(1, 1), flat(4, most), flat(8, 0)} {
			wantLook(t, bad, w, impl.Wave{}, impl.ErrInvalid)
		}
	}
	for _, bad := range noWaves() {
		for _, p := range []impl.Picture{even(1, 1), even(4, most), even(8, 0), {}} {
			wantLook(t, p, bad, impl.Wave{}, impl.ErrInvalid)
		}
	}
	for _, a := range sides {
		for _, b := range sides {
			if a != b {
				wantLook(t, even(a, most), flat(b, most), impl.Wave{}, impl.ErrRange)
			}
		}
		wantLook(t, even(a, most), flat(a, most), impl.Wave{}, impl.ErrLimit)
	}
}

func TestPartsOfRecord(t *testing.T) {
	n := numbers{72}
	for _, r := range append(ranges, [2]int{-76, -73}, [2]int{61, 63}) {
		for round := range 16 {
			o, ref := n.wave(sides[round%4], r[0], r[1]), n.wave(sides[round%4], r[0], r[1])
			c := calculation{}
			p := c.levels(o.Side, func(i int64) float32 { return c.plus(c.square(o.Cells[i]), c.square(ref.Cells[i])) })
			a := c.multiplied(o, conjugates(ref))
			b := c.multiplied(conjugates(o), ref)
			wantParts(t, o, ref, p, a, b, c.code())
		}
	}
}

// conjugates returns the wave of the conjugates of all cells.
func conjugates(w impl.Wave) impl.Wave {
	for i, z := range w.Cells {
		w.Cells[i] = complex(real(z), -imag(z))
	}
	return w
}

func TestPartsByHand(t *testing.T) {
	o, r := waveOf(2, 1, 1i, 0, 2), waveOf(2, 1i, 1, 1, 1)
	wantParts(t, o, r, pictureOf(2, 2, 2, 1, 5), waveOf(2, -1i, 1i, 0, 2), waveOf(2, 1i, -1i, 0, 2), impl.ErrNone)
	o, r = waveOf(1, 1+2i), waveOf(1, 3-4i)
	wantParts(t, o, r, pictureOf(1, 30), waveOf(1, -5+10i), waveOf(1, -5-10i), impl.ErrNone)
	// Each square is rounded before the sum of both.
	o, r = waveOf(1, 4097), waveOf(1, 1)
	wantParts(t, o, r, pictureOf(1, 1<<24+1<<13), waveOf(1, 4097), waveOf(1, 4097), impl.ErrNone)
	o, r = waveOf(1, 0x1p-75), waveOf(1, 0x1p-75i)
	wantParts(t, o, r, pictureOf(1, 0), waveOf(1, 0), waveOf(1, 0), impl.ErrNone)
	for _, side := range sides {
		for _, place := range []int64{0, side*side - 1} {
			o, r := flat(side, 1), flat(side, 1i)
			want := even(side, 2)
			want.Levels[place] = 0x1p126 + 0x1p126
			o.Cells[place], r.Cells[place] = 0x1p63, 0x1p63i
			a := flat(side, -1i)
			a.Cells[place] = -0x1p126i
			wantParts(t, o, r, want, a, conjugates(a), impl.ErrNone)
			// A square, of o or of r, is not finite, though the record and the products are.
			o.Cells[place], r.Cells[place] = 0x1p64, -0x1p63
			wantParts(t, o, r, impl.Picture{}, a, a, impl.ErrLimit)
			o.Cells[place], r.Cells[place] = -0x1p63i, 0x1p64i
			wantParts(t, o, r, impl.Picture{}, a, a, impl.ErrLimit)
			// The squares are finite, but not their sum.
			o.Cells[place], r.Cells[place] = 0x1.7p63, -0x1.7p63i
			wantParts(t, o, r, impl.Picture{}, a, a, impl.ErrLimit)
			wantRecord(t, o, conjugates(o), impl.Picture{}, impl.ErrLimit)
			o.Cells[place], r.Cells[place] = 0x1p100, -0x1p100
			wantParts(t, o, r, impl.Picture{}, a, a, impl.ErrLimit)
			wantRecord(t, o, r, evenBut(side, 2, place, 0), impl.ErrNone)
		}
	}
}

func TestBlockMean(t *testing.T) {
	n := numbers{73}
	for _, r := range append(ranges, [2]int{-149, -147}, [2]int{125, 126}) {
		for round := range 15 {
			w := n.wave(sides[1+round%3], r[0], r[1])
			c := calculation{}
			want := c.blockMean(w)
			wantBlockMean(t, w, want, c.code())
		}
	}
}

func TestBlockMeanByHand(t *testing.T) {
	wantBlockMean(t, waveOf(2, 1, 2i, 3, 6-4i), flat(2, 2.5-0.5i), impl.ErrNone)
	blocks := waveOf(4, 1, 2, 10i, 20i, 3, 6, 30i, 60i, 100, 0, 0, 0, 0, 0, 0, 8)
	means := waveOf(4, 3, 3, 30i, 30i, 3, 3, 30i, 30i, 25, 25, 2, 2, 25, 25, 2, 2)
	wantBlockMean(t, blocks, means, impl.ErrNone)
	// The sum is divided, not its parts.
	wantBlockMean(t, flat(2, complex(least, -least)), flat(2, complex(least, -least)), impl.ErrNone)
	wantBlockMean(t, waveOf(2, least, least), flat(2, 0), impl.ErrNone)
	wantBlockMean(t, waveOf(2, least, least, least), flat(2, least), impl.ErrNone)
	wantBlockMean(t, waveOf(2, 3*least, 0, 3*least), flat(2, 2*least), impl.ErrNone)
	// Sums are taken in the order of the cells.
	wantBlockMean(t, waveOf(2, 1<<24, 1, 1, 1), flat(2, 1<<22), impl.ErrNone)
	wantBlockMean(t, waveOf(2, 1, 1<<24, 1, 1), flat(2, 1<<22), impl.ErrNone)
	wantBlockMean(t, waveOf(2, 1, 1, 1<<24, 1), flat(2, 1<<22+1), impl.ErrNone)
	wantBlockMean(t, waveOf(2, 1i, 1i, 1i, complex(0, 1<<24)), flat(2, complex(0, 1<<22+1)), impl.ErrNone)
	wantBlockMean(t, waveOf(2, 1<<24, 1, -1<<24, 1), flat(2, 0.25), impl.ErrNone)
	wantBlockMean(t, waveOf(2, most, -most, -most, most), flat(2, 0), impl.ErrNone)
	wantBlockMean(t, waveOf(2, most), flat(2, most/4), impl.ErrNone)
}

// A sum that is not finite is none, though a quarter of it, or a later sum, would be.
func TestLimitsOfBlockMean(t *testing.T) {
	for _, side := range []int64{2, 4, 8} {
		last := side*side - 1
		for _, first := range []int64{0, last - side - 1} {
			for _, z := range []complex64{complex(most, 0), complex(0, -most)} {
				w := flat(side, 1)
				w.Cells[first], w.Cells[first+1] = z, z
				wantBlockMean(t, w, impl.Wave{}, impl.ErrLimit)
				w.Cells[first+side], w.Cells[first+side+1] = -z, -z
				wantBlockMean(t, w, impl.Wave{}, impl.ErrLimit)
				w.Cells[first+1], w.Cells[first+side] = -z, z
				want := flat(side, 1)
				want.Cells[first], want.Cells[first+1], want.Cells[first+side], want.Cells[first+side+1] = 0, 0, 0, 0
				wantBlockMean(t, w, want, impl.ErrNone)
			}
		}
	}
	// Cells of different blocks do not meet.
	apart := impl.Wave{Side: 4}
	for _, i := range []int64{1, 2, 4, 7, 9, 10, 12, 15} {
		apart.Cells[i] = 0x1.8p126
	}
	wantBlockMean(t, apart, flat(4, 0x1.8p125), impl.ErrNone)
}

func TestErrorsOfBlockMean(t *testing.T) {
	for _, bad := range noWaves() {
		wantBlockMean(t, bad, impl.Wave{}, impl.ErrInvalid)
	}
	for _, z := range []complex64{0, 1, complex(most, -most), minusZero} {
		wantBlockMean(t, waveOf(1, z), impl.Wave{}, impl.ErrRange)
	}
	for _, side := range []int64{2, 4, 8} {
		wantBlockMean(t, flat(side, 3-4i), flat(side, 3-4i), impl.ErrNone)
		wantBlockMean(t, flat(side, most), impl.Wave{}, impl.ErrLimit)
	}
}
