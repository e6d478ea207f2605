package tests

import (
	"slices"
	"testing"

	"loop.example/g01225/impl"
)

// wantObject compares the object mended at a place with a wave and a code.
func wantObject(t *testing.T, o, p impl.Wave, at impl.Place, b impl.Picture, h float32, want impl.Wave, wantCode int64) {
	t.Helper()
	if wantCode != impl.ErrNone {
		want = impl.Wave{}
	}
	got, code := impl.MendObject(o, p, at, b, h)
	wantWave(t, "MendObject", got, code, want, wantCode)
}

// wantProbe compares the probe mended at a place with a wave and a code.
func wantProbe(t *testing.T, o, p impl.Wave, at impl.Place, b impl.Picture, h float32, want impl.Wave, wantCode int64) {
	t.Helper()
	if wantCode != impl.ErrNone {
		want = impl.Wave{}
	}
	got, code := impl.MendProbe(o, p, at, b, h)
	wantWave(t, "MendProbe", got, code, want, wantCode)
}

// wantExactObject compares the object mended at a place with what exact fractions tell, and returns
// the code.
func wantExactObject(t *testing.T, o, p impl.Wave, at impl.Place, b impl.Picture, h float32) int64 {
	t.Helper()
	c := calculation{}
	want := c.mendedObject(o, p, at, b, h)
	wantObject(t, o, p, at, b, h, want, c.code())
	return c.code()
}

// wantExactProbe does the same with the probe.
func wantExactProbe(t *testing.T, o, p impl.Wave, at impl.Place, b impl.Picture, h float32) int64 {
	t.Helper()
	c := calculation{}
	want := c.mendedProbe(o, p, at, b, h)
	wantProbe(t, o, p, at, b, h, want, c.code())
	return c.code()
}

// near returns a picture whose levels differ by up to an eighth from those of another one.
func (n *numbers) near(p impl.Picture) impl.Picture {
	for i, level := range p.Levels {
		p.Levels[i] = level * (1 + n.next(-10, -4))
	}
	return p
}

func TestMending(t *testing.T) {
	n, codes := numbers{360}, map[int64]int{}
	for _, r := range scanRanges {
		forSides(func(side, m int64) {
			o, p, at := n.wave(side, r[0], r[1]), n.wave(m, r[2], r[3]), n.places(side, 1)[0]
			for range 3 {
				b := n.picture(m, -3, 3+int(n.bits()%120))
				h := someFeedbacks[n.bits()%uint64(len(someFeedbacks))]
				codes[wantExactObject(t, o, p, at, b, h)]++
				codes[wantExactProbe(t, o, p, at, b, h)]++
			}
		})
	}
	if codes[impl.ErrNone] < 200 || codes[impl.ErrLimit] < 100 {
		t.Errorf("codes of mending: %v", codes)
	}
}

// Mending by pictures like those that the object has makes small differences.
func TestMendingByNearPictures(t *testing.T) {
	n := numbers{361}
	for _, r := range scanRanges[:5] {
		forSides(func(side, m int64) {
			o, p := n.wave(side, r[0], r[1]), n.wave(m, r[2], r[3])
			for _, at := range n.places(side, 2) {
				c := calculation{}
				b := n.near(c.pictureAt(o, p, at))
				for _, h := range []float32{0.3, 1} {
					wantExactObject(t, o, p, at, b, h)
					wantExactProbe(t, o, p, at, b, h)
				}
			}
		})
	}
}

// All places of objects, with patches that go over the last row and column.
func TestMendingAtAllPlaces(t *testing.T) {
	n := numbers{362}
	forSides(func(side, m int64) {
		if m == 8 {
			return
		}
		o, p, b := n.wave(side, -2, 2), n.wave(m, -2, 2), n.picture(m, -2, 6)
		for _, at := range allPlaces(side) {
			wantExactObject(t, o, p, at, b, 0.9)
			wantExactProbe(t, o, p, at, b, 0.9)
		}
	})
}

func TestMendingByHand(t *testing.T) {
	one := func(z complex64) impl.Wave { return waveOf(1, z) }
	at := impl.Place{}
	// The exit wave 2 becomes 4: the difference 2, times 2, over 4.
	wantObject(t, one(1), one(2), at, pictureOf(1, 16), 1, one(2), impl.ErrNone)
	wantObject(t, one(1), one(2), at, pictureOf(1, 16), 0.5, one(1.5), impl.ErrNone)
	wantProbe(t, one(1), one(2), at, pictureOf(1, 16), 0.5, one(3), impl.ErrNone)
	wantObject(t, one(1), one(2i), at, pictureOf(1, 16), 1, one(2), impl.ErrNone)
	wantProbe(t, one(1), one(2i), at, pictureOf(1, 16), 1, one(4i), impl.ErrNone)
	wantObject(t, one(4i), one(0.5i), at, pictureOf(1, 0), 0.25, one(3i), impl.ErrNone)
	wantProbe(t, one(4i), one(0.5i), at, pictureOf(1, 0), 0.25, one(0.375i), impl.ErrNone)
	// An object of 0 gets the amplitude behind the probe.
	wantObject(t, one(0), one(4i), at, pictureOf(1, 9), 1, one(-0.75i), impl.ErrNone)
	wantProbe(t, one(4i), one(0), at, pictureOf(1, 9), 1, one(-0.75i), impl.ErrNone)
	// The exit wave 3, 4i has the spectrum 3+4i, 3-4i in both rows, and becomes 6, 8i.
	o := waveOf(4, 7, 8, 9, 7, 5, 4, 3, 2, 1, 1i, 2i, 3i, 2, 5, 6, 3)
	p := waveOf(2, 1, 2i)
	mended := o
	mended.Cells[15], mended.Cells[12] = 3.75, 4
	corner := impl.Place{Row: 3, Column: 3}
	wantObject(t, o, p, corner, even(2, 100), 1, mended, impl.ErrNone)
	mended.Cells[15], mended.Cells[12] = 3.375, 3
	wantObject(t, o, p, corner, even(2, 100), 0.5, mended, impl.ErrNone)
	// The greatest square of the patch is that of 4; those of the probe and of the object do not matter.
	o.Cells[15], o.Cells[12] = 4, 2
	o.Cells[0], o.Cells[3] = 1i, 3
	p = waveOf(2, 0.75, 2i, 0, 0)
	wantProbe(t, o, p, corner, even(2, 100), 1, waveOf(2, 1.5, 2.5i), impl.ErrNone)
	wantProbe(t, o, p, corner, even(2, 100), 0.25, waveOf(2, 0.9375, 2.125i), impl.ErrNone)
	// A cell of the probe that was 0 is mended, too.
	wantProbe(t, flat(2, 2), waveOf(2, 1), at, pictureOf(2, 16), 1, flat(2, 0.5), impl.ErrNone)
	wantObject(t, flat(2, 2), waveOf(2, 1), at, pictureOf(2, 16), 1, waveOf(2, 1, 2, 2, 2), impl.ErrNone)
}

// Each number is rounded on its own: the quotient by q before it is multiplied by h, the product
// before it is divided, and the difference before the product.
func TestRoundingOfMending(t *testing.T) {
	n, differ := numbers{363}, [4]int{}
	for range 300 {
		o, p, at := n.wave(1, -2, 2), n.wave(1, -2, 2), impl.Place{}
		b, h := n.picture(1, -2, 4), abs(n.next(-3, -2))
		wantExactObject(t, o, p, at, b, h)
		c := calculation{}
		f, q, exit := p.Cells[0], exactSquare(p.Cells[0]), c.exit(o, p, at)
		d := c.difference(c.throughSpectrum(exit, b).Cells[0], exit.Cells[0])
		product := c.product(complex(real(f), -imag(f)), d)
		addition := c.additions(exit, p, b, h).Cells[0]
		over := func(z complex64, q float32) complex64 { return complex(c.over(real(z), q), c.over(imag(z), q)) }
		others := [4]complex64{
			over(c.scaled(h, product), q),
			c.scaled(exactQuotient(h, q), product),
			c.product(over(complex(real(f), -imag(f)), q), c.scaled(h, d)),
			c.scaled(h, c.product(complex(real(f), -imag(f)), over(d, q))),
		}
		for i, other := range others {
			if other != addition {
				differ[i]++
			}
		}
	}
	if slices.Min(differ[:]) < 30 {
		t.Errorf("cases in which the order of the operations matters: %v", differ)
	}
	// What is added to a great cell is lost, and a subnormal number is rounded before the sum.
	wantObject(t, waveOf(1, 1<<25), waveOf(1, 1), impl.Place{}, pictureOf(1, 0x1.000004p50), 1, waveOf(1, 1<<25+4), impl.ErrNone)
	wantObject(t, waveOf(1, 1<<25), waveOf(1, 1), impl.Place{}, pictureOf(1, 0x1.000004p50), 0.5, waveOf(1, 1<<25), impl.ErrNone)
	wantObject(t, waveOf(1, complex(least, 0)), waveOf(1, 1), impl.Place{}, pictureOf(1, 4), least, waveOf(1, complex(3*least, 0)), impl.ErrNone)
	wantObject(t, waveOf(1, complex(least, 0)), waveOf(1, 1), impl.Place{}, pictureOf(1, 0.25), least, waveOf(1, complex(least, 0)), impl.ErrNone)
}

// zeroSquares are cells whose squares are 0.
var zeroSquares = []complex64{0, minusZero, complex(least, 0), complex(0, -least), complex(0x1p-75, 0), complex(-0x1p-76, 0x1p-76), complex(0, 0x1p-126)}

// Where all squares of the probe are 0, nothing changes, to the last bit, and the same holds for
// those of the patch with the roles exchanged.
func TestMendingBehindNothing(t *testing.T) {
	forSides(func(n, m int64) {
		at := impl.Place{Row: n - 1, Column: n / 2}
		for _, z := range zeroSquares {
			nothing := flat(m, z)
			for _, other := range []complex64{0, minusZero, 1, complex(-most, most), complex(zeroBelow, 5)} {
				for _, level := range []float32{0, zeroBelow, 1, most} {
					got, code := impl.MendObject(flat(n, other), nothing, at, even(m, level), 1)
					wantSameBits(t, "MendObject", got, code, flat(n, other))
					got, code = impl.MendProbe(flat(n, z), flat(m, other), at, even(m, level), 1)
					wantSameBits(t, "MendProbe", got, code, flat(m, other))
				}
			}
		}
		// Cells beside the patch do not matter for its greatest square.
		if m < n {
			o := flat(n, most)
			for _, cell := range cellsOfPatch(n, m, at) {
				o.Cells[cell] = 0x1p-75i
			}
			wantProbe(t, o, flat(m, 3), at, even(m, 1), 1, flat(m, 3), impl.ErrNone)
		}
		// One cell with a square that is not 0, at any place, is enough.
		for place := range m * m {
			p := waveBut(m, 0x1p-75, place, 0x1.8p-75)
			got, code := impl.MendObject(flat(n, 1), p, at, even(m, 1), 1)
			wantNone(t, "MendObject", code)
			if got == flat(n, 1) {
				t.Errorf("the probe %v changes nothing", p)
			}
		}
	})
}

// wantSameBits wants a wave that is another one to the last bit.
func wantSameBits(t *testing.T, name string, w impl.Wave, code int64, want impl.Wave) {
	t.Helper()
	if code != impl.ErrNone || !slices.Equal(bitsOf([]impl.Wave{w}), bitsOf([]impl.Wave{want})) {
		t.Errorf("%s = %v, %d; want %v", name, w, code, want)
	}
}

// Cells of the object beside the patch stay as they are, bit for bit, and of those of the patch the
// ones change for which the probe is not 0.
func TestCellsThatAreMended(t *testing.T) {
	beside := []complex64{minusZero, complex(least, zeroBelow), most, complex(-most, most)}
	forSides(func(n, m int64) {
		p := waveOf(m, 1)
		p.Cells[m*m-1] = 2i
		for _, at := range allPlaces(n) {
			o, cells := impl.Wave{Side: n}, cellsOfPatch(n, m, at)
			for i := range n * n {
				o.Cells[i] = beside[i%4]
			}
			for i, cell := range cells {
				o.Cells[cell] = complex(float32(i+1), 1)
			}
			got, code := impl.MendObject(o, p, at, even(m, 1<<20), 1)
			for i, cell := range cells {
				if (got.Cells[cell] != o.Cells[cell]) != (p.Cells[i] != 0) {
					t.Errorf("the cell %d of the patch at %v becomes %v", i, at, got.Cells[cell])
				}
				got.Cells[cell] = o.Cells[cell]
			}
			wantSameBits(t, "MendObject beside the patch", got, code, o)
		}
	})
}

// What is not finite may arise at each step, and then also h = 0 and a finite answer do not help.
func TestLimitsOfMending(t *testing.T) {
	for _, known := range []struct {
		o, p          complex64
		level, h      float32
		object, probe bool
	}{
		// The product.
		{0x1p70, 0x1p60, 1, 1, true, true},
		{0x1p60i, 0x1p70, 1, 0, true, true},
		// The square of the probe or of the patch.
		{0x1p-10, 0x1p64, 0x1p108, 1, true, false},
		{0x1p-10, 0x1p64i, 0x1p108, 0, true, false},
		{0, most, 0, 0, true, false},
		{0x1p64, 0x1p-10i, 0x1p108, 1, false, true},
		{-most, 0, 0, 0, false, true},
		{complex(-0x1.7p63, 0x1.7p63), 0x1p-10, 0x1p108, 1, false, true},
		{complex(0, greatest), 0x1p-10, 0x1p108, 1, false, false},
		// The square of the transform.
		{0x1p32, 0x1p32, 1, 1, true, true},
		{complex(0x1.7p31, -0x1.7p31), 0x1p32, 0, 0, true, true},
		{0x1.fffffep31, 0x1p32, most, 1, false, false},
		// The product of the conjugate and the difference.
		{0x1.16859ap-100, complex(0x1.ae3fcep63, 0x1.158ac2p63), most, 1, true, false},
		{0x1.16859ap-100, complex(0x1.ae3fcep63, 0x1.158ac2p63), most, 0, true, false},
		{complex(0x1.ae3fcep63, -0x1.158ac2p63), 0x1.16859ap-100, most, 0, false, true},
		{0x1.16859ap-100, complex(0x1.ae3fcep63, 0x1.158ac2p63), 0x1.fffffp127, 1, false, false},
		// The quotient.
		{1, 0x1p-74, most, 1, true, false},
		{1, 0x1p-74, most, 0, true, false},
		{1, 0x1p-74i, 0x1p108, least, true, false},
		{1, 0x1p-74i, 0x1p107, 1, false, false},
		{0x1p-74i, 1, most, 0, false, true},
		{0x1p-74, 1i, 0x1p108, 1, false, true},
		// The sum.
		{0x1p127, 0x1p-70, 0x1p116, 1, true, true},
		{0x1p127, 0x1p-70, 0x1p116, 0.5, false, true},
		{0x1p-70, 0x1p127i, 0x1p116, 1, true, true},
		{0x1p-70, 0x1p127i, 0x1p116, 0.5, true, false},
		{complex(0, most), 0x1p-70, 0x1.000002p116, 1, true, true},
	} {
		forSides(func(n, m int64) {
			if m == 8 {
				return
			}
			at := impl.Place{Row: n - 1, Column: n - 1}
			cells := cellsOfPatch(n, m, at)
			for _, place := range []int64{0, m*m - 1} {
				o, p, b := flat(n, 0), waveBut(m, 0, place, known.p), even(m, known.level)
				o.Cells[cells[place]] = known.o
				if code := wantExactObject(t, o, p, at, b, known.h); code != codeIf(known.object) {
					t.Errorf("the code %d of the object of %v", code, known)
				}
				if code := wantExactProbe(t, o, p, at, b, known.h); code != codeIf(known.probe) {
					t.Errorf("the code %d of the probe of %v", code, known)
				}
			}
		})
	}
}
